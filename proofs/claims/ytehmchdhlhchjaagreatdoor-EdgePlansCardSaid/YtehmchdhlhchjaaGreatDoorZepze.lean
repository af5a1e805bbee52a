/- The document's Agreed. past: kept hands on what is kept. past: what is kept is merged. past.Join. past.Add. edge.Learn. The law's events (layer 20). The law's awake (layer 20), by contracts. -/
import Derived.Test.YtehmchdhlhchjaaGreatDoorZepzc
import Derived.Deep.Cut
import Derived.Test.YtehmchdhlhchjaaGreatDoorZepq
import Derived.Deep.CutRange
import Derived.OwnWalkIn
import Derived.Sort.LoopGhostIn
import Derived.Test.YtehmchdhlhchjaaGreatDoorZepk
import Derived.Test.YtehmchdhlhchjaaGreatDoorZepzb
import Derived.Test.YtehmchdhlhchjaaGreatDoorZepzd
import Derived.Test.YtehmchdhlhchjaaGreatDoorZepy
import Derived.Test.YtehmchdhlhchjaaGreatDoorZepd
import Derived.Deep.RegionHeld3
set_option linter.unusedSimpArgs false
set_option linter.unusedVariables false
set_option maxHeartbeats 32000000
namespace Go.Proofs.YtehmchdhlhchjaaGreatDoor
section
open Go.RowKit Go.Lib


set_option maxRecDepth 100000 in
theorem fdagreed_any (w : World) (A : Option Addr) (c : Nat) (xs : List EvT) (es : List EvP) (n : Int) (B : Option Addr) (bc : Nat) (ks : List Sp) (h : RdK evTy w A xs.length xs) (hc : xs.length ≤ c) (ho : xs = [] ∨ ∀ a, A = some a → a.block < w.heap.size) (hx : EvsR w xs es) (hn : xs.length ≤ 1000) (hs : ∀ e ∈ es, EvSm e ∧ e.q.length ≤ 100000) (hk : RdK spanTy w B ks.length ks) (hkn : ks.length ≤ 140737488351232) :
  Calls Tryz.prog 18 #[.slice A xs.length c, .agg #[.int .i64 n, .slice B ks.length bc]] w fun r w' => r = .returned (.bool (agreedA es n ks)) ∧ Chg [] w w' := by
 obtain ⟨w1, hw1, c1, b1⟩ := news1 w (.cells #[.int .i64 n, .slice B ks.length bc] 25)
 have W1 := h_ hw1
 have C1 := h_ c1
 have B1 := h_ b1
 have CK := h_ (ktcheck_any w1 A c xs es (h.chg c1 (by simp)) (hx.chg c1) hn (fun e he => hs e he))
 have EC : Hid (∀ w', Chg [] w1 w' → Calls Tryz.prog 38 #[.agg #[.int .i64 n, .slice B ks.length bc]] w' fun r w2 => r = .returned (.int .i64 (chkA n ks)) ∧ Chg [] w' w2) := h_ (fun w' hc => fdcheck_any w' n B ks.length bc ks (hk.chg (c1.trans hc) (by simp)) hkn)
 have PL : Hid (∀ w', Chg [] w1 w' → Calls Tryz.prog 11 #[.slice A xs.length c, .agg #[.int .i64 n, .slice B ks.length bc]] w' fun r w2 => ∃ (A' : Option Addr) (c' : Nat) (zs : List EvT), r = .returned (.slice A' zs.length c') ∧ RdK evTy w2 A' zs.length zs ∧ EvsR w2 zs (planA es n ks) ∧ Chg [] w' w2) := h_ (fun w' hc' => fdplan_any w' A c xs es n B bc ks (h.chg (c1.trans hc') (by simp)) hc (ho.imp id (fun q a ha => Nat.lt_of_lt_of_le (q a ha) (c1.trans hc').size)) (hx.chg (c1.trans hc')) hn hs (hk.chg (c1.trans hc') (by simp)) hkn)
 clear hw1 c1 b1 h hc ho hx hn hs hk hkn
 have HR := h_ (agreed_plan (s := es) (n := n) (k := ks))
 obtain ⟨R, hR⟩ : ∃ R, agreedA es n ks = R := ⟨_, rfl⟩
 rw [hR] at HR ⊢
 clear hR
 obtain ⟨P, hP⟩ : ∃ P, planA es n ks = P := ⟨_, rfl⟩
 rw [hP] at HR PL
 clear hP
 go_enter Tryz.func18, Tryz.ntmps18
 go_upto_region 1 with fail
 rw [← W1.out]
 obtain ⟨g1, hg1⟩ : ∃ g, w.heap.size = g := ⟨_, rfl⟩
 rw [hg1] at B1 ⊢
 clear hg1 W1; go_wp2_with fail
 refine CK.out.mono ?_
 rintro r w2 ⟨rfl, hc⟩
 have D2 := h_ hc
 replace B1 := h_ (hc.at_ B1.out (by simp))
 clear hc CK
 rcases stE_two es with e1 | e1
 rotate_left
 ·
  obtain rfl : R = false := by rw [HR.out, decide_eq_false (fun q => by rw [stE_zero.2 q] at e1; cases e1)]; rfl
  rw [e1]
  clear e1 HR; go_wp2; go_ret
  exact ⟨rfl, C1.out.trans D2.out⟩
 have S1 := h_ (stE_zero.1 e1)
 rw [e1]
 clear e1
 obtain ⟨y0, y1⟩ := ce2 B1.out
 go_wp2_with fail
 refine (EC.out w2 D2.out).mono ?_
 rintro r w3 ⟨rfl, hc⟩
 have D3 := h_ (D2.out.trans hc)
 replace B1 := h_ (hc.at_ B1.out (by simp))
 clear hc EC y0 y1
 rcases chkA_two n ks with e1 | e1
 rotate_left
 ·
  obtain rfl : R = false := by rw [HR.out, decide_eq_false (p := chkA n ks = 0) (fun q => by rw [q] at e1; cases e1)]; simp
  rw [e1]
  clear e1 HR; go_wp2; go_ret
  exact ⟨rfl, C1.out.trans D3.out⟩
 have YES : Hid (R = P.isEmpty) := h_ (by rw [HR.out, decide_eq_true S1.out, decide_eq_true e1]; rfl)
 rw [e1]
 clear e1 HR
 obtain ⟨y0, y1⟩ := ce2 B1.out
 go_wp2_with fail
 refine (PL.out w3 D3.out).mono ?_
 rintro r w4 ⟨A4, c4, zs, rfl, hr, he, hc⟩
 have D4 := h_ (D3.out.trans hc)
 have ZL := h_ he.1
 clear hr he hc PL y0 y1
 cases P with
 | nil =>
  have z0 : zs.length = 0 := ZL.out
  obtain rfl : R = true := YES.out
  rw [z0]
  clear z0 YES; go_wp2; go_ret
  exact ⟨rfl, C1.out.trans D4.out⟩
 | cons p P =>
  have z0 : zs.length = P.length + 1 := ZL.out
  obtain rfl : R = false := YES.out
  have z1 : (((P.length + 1 : Nat) : Int) == 0) = false := beq_eq_false_iff_ne.2 (by omega)
  have z2 : decide (((P.length + 1 : Nat) : Int) = 0) = false := decide_eq_false (by omega)
  have z3 : ((P.length : Int) + 1 == 0) = false := beq_eq_false_iff_ne.2 (by omega)
  have z4 : decide ((P.length : Int) + 1 = 0) = false := decide_eq_false (by omega)
  have z5 : ¬ (P.length : Int) + 1 = 0 := by omega
  rw [z0]
  clear z0 YES; go_wp2; go_ret
  first | exact ⟨rfl, C1.out.trans D4.out⟩ | exact ⟨by simp; omega, C1.out.trans D4.out⟩
end
section
open Go.RowKit Go.Lib


set_option maxRecDepth 100000 in
theorem kept_either (n l n₁ g : Nat) (T X : List Nat) (a b : List Sp) (J Jx : List Sp → World → Prop) (W : World) (hg1 : g < n₁ ∧ g ∉ T) (hX : ∀ z ∈ X, z < n₁ ∧ z ∉ T) (hn₁ : n₁ ≤ W.heap.size)
  (hJ : ∀ pre A B, J pre A → Chg [g] A B → J pre B)
  (hY : ∀ pre x W1, J pre W1 → (B3 x ∧ (∀ y ∈ pre, Le y x) ∧ pre.length < potP a b ∧ ∀ n s, InS x n s → kE (memb a n s) (memb b n s) = true) → YieldAt Fence.wide n Tryz.prog l #[.agg #[.int .i64 x.1, .int .i64 x.2.1, .int .i64 x.2.2]] W1 fun e W' => (e = .returned (.bool true) ∧ J (pre ++ [x]) W' ∧ Kpt n₁ T W1 W') ∨ (e = .returned (.bool false) ∧ Jx (pre ++ [x]) W'))
  (h0 : SwP W g X a b 198) (ha : WfC a) (hb : WfC b) (hj : J [] W) :
  CallsIn Fence.wide (n + 1) Tryz.prog 156 #[.pointer (some ⟨g, 0, none⟩), .func (.yield l) #[] #[]] W fun e W' => (∃ v, e = .returned v) ∧ ((∃ pre, SwInv kE a b [] [] pre ∧ J pre W') ∨ ∃ pre, Jx pre W') := by
 refine callsIn_of_wp Tryz.func156 rfl trivial ?_ rfl
 simp only [Tryz.ntmps156, List.size_toArray, List.length_cons, List.length_nil, Nat.reduceAdd, Nat.reduceSub, Array.replicate_succ, Array.replicate_zero, List.push_toArray, List.append_toArray, List.nil_append, List.cons_append]
 have HK := h_ (fun (w : World) (x y : Bool) => either_any w x y)
 gi_wp2
 gi_loopg [] (dotsN a + dotsN b + 1) (fun G wr => ∃ (la lb pre : List Sp), Hid (SwInv kE a b la lb pre) ∧ Hid (SwP wr g X la lb 198) ∧ J pre wr ∧ Hid (n₁ ≤ wr.heap.size) ∧ dotsN la + dotsN lb < G)
 case atStart => exact ⟨a, b, [], h_ (SwInv.begin ha hb), h_ h0, hj, h_ hn₁, by omega⟩
 case round =>
  obtain ⟨la, lb, pre, HI, HS, hJs, HN, hG⟩ := hrel
  have HJ0 := h_ hJs
  have HG := h_ hG
  clear hJs hG
  by_cases hne : la ≠ [] ∨ lb ≠ []
  rotate_left
  ·
   have ea : la = [] := by by_cases e : la = []; exact e; exact absurd (.inl e) hne
   have eb : lb = [] := by by_cases e : lb = []; exact e; exact absurd (.inr e) hne
   subst ea; subst eb
   obtain ⟨A, c, B, d, hs⟩ := HS.out
   have z0 := cell_of hs.hg 0
   have z4 := cell_of hs.hg 4
   simp only [List.getElem?_toArray, List.getElem?_cons_succ, List.getElem?_cons_zero, hd_nil] at z0 z4
   clear hs hne
   gi_wp2
   go_end0
   exact ⟨⟨_, rfl⟩, .inl ⟨pre, HI.out, HJ0.out⟩⟩
  have so := step_ok HI.out.wa HI.out.wb hne
  have st := fun hX' => step_any wr g X la lb 198 HS.out hX' HI.out.wa HI.out.wb hne
  replace st := st (fun z hz => by have := (hX z hz).1; have := HN.out; omega)
  have c12 : ((hdP la).1 != 201) = true ∨ ((hdP la).1 != 201) = false ∧ ((hdP lb).1 != 201) = true := by
   cases la with
   | cons x r => left; have := HI.out.wa.2 x (by simp); rw [hd_cons]; simp; omega
   | nil =>
    right
    cases lb with
    | nil => exact absurd rfl (hne.elim id id)
    | cons x r => have := HI.out.wb.2 x (by simp); rw [hd_cons, hd_nil]; simp; omega
  generalize pieceP (hdP la) (hdP lb) = p at so st
  generalize inP (hdP la) (hdP lb) = ia at so st
  generalize inP (hdP lb) (hdP la) = ib at so st
  generalize leftP la ia p.2.2 = la' at so st
  generalize leftP lb ib p.2.2 = lb' at so st
  have KI := h_ (fun w => HK.out w ia ib)
  have SO := h_ so
  have ST := h_ st
  have ND0 := h_ (HI.out.step (k := kE) (by rfl) so)
  clear so st hne
  have OKP : Hid (SpOk p ∧ B3 p) := h_ (by have := SO.out.ok; unfold B3 SpOk at *; omega)
  obtain ⟨A, c, B, d, hs⟩ := HS.out
  have z0 := ce1 hs.hg
  have z4 := cell_of hs.hg 4
  simp only [gA, gY, gZ] at z4
  have GLT := h_ (lt_of_heap hs.hg)
  clear hs HS
  generalize (hdP la).1 = ha1 at *
  generalize (hdP lb).1 = hb1 at *
  generalize hkv : kE ia ib = kv at KI ND0
  cases kv
  case false =>
   have ND : Hid (SwInv kE a b la' lb' pre) := h_ (by have := ND0.out; rwa [if_neg (by simp)] at this)
   clear ND0 hkv
   rcases c12 with c1 | ⟨c1, c2⟩
   ·
    skip
    gi_wp2_with (refine ⟨trivial, ?_⟩; gi_at_call 192; refine (callsIn_wide.2 ST.out).mono ?_; rintro e w1 ⟨rfl, h1, h2⟩; obtain ⟨A', c', B', d', hs⟩ := h1; have HQ := h_ hs; have CG := h_ h2; have z8 : (w1.alloc (.cells #[.int .i64 p.1, .int .i64 p.2.1, .int .i64 p.2.2] 81)).cell? ⟨g, 8, none⟩ = some (.func (.func 198) #[] #[]) := ((Chg.refl [] w1).alloc _).cell (show w1.cell? ⟨g, 8, none⟩ = some (.func (.func 198) #[] #[]) from (cell_of hs.hg 8).trans rfl) (by simp); clear hs h2)
    clear z0 z4 c1
    obtain ⟨w2, hw2, c2', b2⟩ := news1 w1 (.cells #[.int .i64 p.1, .int .i64 p.2.1, .int .i64 p.2.2] 81)
    rw [← hw2] at z8 ⊢
    have B2 := h_ b2
    have C2 := h_ (CG.out.trans (c2'.mono (S' := [g]) (by simp)))
    replace HQ := h_ (HQ.out.chg c2' (by simp) (by simp))
    clear hw2 c2' b2
    generalize w1.heap.size = gp at *
    gi_wp2_with (refine ⟨trivial, ?_⟩; gi_at_call 198; refine (callsIn_wide.2 (KI.out _)).mono ?_; rintro e w3 ⟨rfl, hc⟩; have C3 := h_ hc; clear hc)
    refine ⟨(fun f hf => by cases hf), ?_⟩
    gi_wp2
    gi_roundg (dotsN la + dotsN lb)
    case measure => exact HG.out
    case rel => exact ⟨la', lb', pre, ND, h_ ⟨_, _, _, _, HQ.out.chg C3.out (by simp) (by simp)⟩, hJ _ _ _ HJ0.out (C2.out.trans (C3.out.mono (by simp))), h_ (Nat.le_trans HN.out (Nat.le_trans C2.out.size C3.out.size)), SO.out.dec⟩
   ·
    skip
    gi_wp2_with (refine ⟨trivial, ?_⟩; gi_at_call 192; refine (callsIn_wide.2 ST.out).mono ?_; rintro e w1 ⟨rfl, h1, h2⟩; obtain ⟨A', c', B', d', hs⟩ := h1; have HQ := h_ hs; have CG := h_ h2; have z8 : (w1.alloc (.cells #[.int .i64 p.1, .int .i64 p.2.1, .int .i64 p.2.2] 81)).cell? ⟨g, 8, none⟩ = some (.func (.func 198) #[] #[]) := ((Chg.refl [] w1).alloc _).cell (show w1.cell? ⟨g, 8, none⟩ = some (.func (.func 198) #[] #[]) from (cell_of hs.hg 8).trans rfl) (by simp); clear hs h2)
    clear z0 z4 c1 c2
    obtain ⟨w2, hw2, c2', b2⟩ := news1 w1 (.cells #[.int .i64 p.1, .int .i64 p.2.1, .int .i64 p.2.2] 81)
    rw [← hw2] at z8 ⊢
    have B2 := h_ b2
    have C2 := h_ (CG.out.trans (c2'.mono (S' := [g]) (by simp)))
    replace HQ := h_ (HQ.out.chg c2' (by simp) (by simp))
    clear hw2 c2' b2
    generalize w1.heap.size = gp at *
    gi_wp2_with (refine ⟨trivial, ?_⟩; gi_at_call 198; refine (callsIn_wide.2 (KI.out _)).mono ?_; rintro e w3 ⟨rfl, hc⟩; have C3 := h_ hc; clear hc)
    refine ⟨(fun f hf => by cases hf), ?_⟩
    gi_wp2
    gi_roundg (dotsN la + dotsN lb)
    case measure => exact HG.out
    case rel => exact ⟨la', lb', pre, ND, h_ ⟨_, _, _, _, HQ.out.chg C3.out (by simp) (by simp)⟩, hJ _ _ _ HJ0.out (C2.out.trans (C3.out.mono (by simp))), h_ (Nat.le_trans HN.out (Nat.le_trans C2.out.size C3.out.size)), SO.out.dec⟩
  case true =>
   have ND : Hid (SwInv kE a b la' lb' (pre ++ [p])) := h_ (by have := ND0.out; rwa [if_pos rfl] at this)
   have LEP : Hid (∀ y ∈ pre, Le y p) := h_ (fun y hy => (List.pairwise_append.1 ND.out.up).2.2 y hy p (by simp))
   have HYF := h_ (fun W' (hc : Chg [g] wr W') => hY pre p W' (hJ pre wr W' HJ0.out hc) ⟨OKP.out.2, LEP.out, by have := ND.out.cnt; simp at this; omega, fun n s q => (ND.out.m n s).2 (.inl (mem_append.2 (.inr (mem_one.2 q))))⟩)
   clear ND0 hkv
   rcases c12 with c1 | ⟨c1, c2⟩
   ·
    skip
    gi_wp2_with (refine ⟨trivial, ?_⟩; gi_at_call 192; refine (callsIn_wide.2 ST.out).mono ?_; rintro e w1 ⟨rfl, h1, h2⟩; obtain ⟨A', c', B', d', hs⟩ := h1; have HQ := h_ hs; have CG := h_ h2; have z8 : (w1.alloc (.cells #[.int .i64 p.1, .int .i64 p.2.1, .int .i64 p.2.2] 81)).cell? ⟨g, 8, none⟩ = some (.func (.func 198) #[] #[]) := ((Chg.refl [] w1).alloc _).cell (show w1.cell? ⟨g, 8, none⟩ = some (.func (.func 198) #[] #[]) from (cell_of hs.hg 8).trans rfl) (by simp); clear hs h2)
    clear z0 z4 c1
    obtain ⟨w2, hw2, c2', b2⟩ := news1 w1 (.cells #[.int .i64 p.1, .int .i64 p.2.1, .int .i64 p.2.2] 81)
    rw [← hw2] at z8 ⊢
    have B2 := h_ b2
    have C2 := h_ (CG.out.trans (c2'.mono (S' := [g]) (by simp)))
    replace HQ := h_ (HQ.out.chg c2' (by simp) (by simp))
    clear hw2 c2' b2
    generalize w1.heap.size = gp at *
    gi_wp2_with (refine ⟨trivial, ?_⟩; gi_at_call 198; refine (callsIn_wide.2 (KI.out _)).mono ?_; rintro e w3 ⟨rfl, hc⟩; have C3 := h_ hc; have b3 := hc.at_ B2.out (by simp); have y0 := cell_of b3 0; have y1 := cell_of b3 1; have y2 := cell_of b3 2; simp only [gA, gY, gZ] at y0 y1 y2; clear b3; obtain ⟨fn, tmps, assign, body, hy, hRn⟩ := HYF.out w3 (C2.out.trans (hc.mono (by simp))); clear hc)
    refine hRn.mono ?_
    clear y0 y1 y2 hy
    rintro e w4 (⟨rfl, hJ4, hk4⟩ | ⟨rfl, hx⟩)
    ·
     have J4 := h_ hJ4
     have K4 := h_ hk4
     clear hJ4 hk4 hRn
     gi_wp2
     gi_roundg (dotsN la + dotsN lb)
     case measure => exact HG.out
     case rel => exact ⟨la', lb', pre ++ [p], ND, h_ ((show SwP w3 g X la' lb' 198 from ⟨_, _, _, _, HQ.out.chg C3.out (by simp) (by simp)⟩).kpt K4.out hg1 hX), J4.out, h_ (Nat.le_trans HN.out (Nat.le_trans C2.out.size (Nat.le_trans C3.out.size K4.out.size))), SO.out.dec⟩
    ·
     have JX := h_ hx
     clear hx hRn
     gi_wp2
     refine bodyPost_ret (results_none rfl _ _ _) rfl ?_
     exact ⟨⟨_, rfl⟩, .inr ⟨_, JX.out⟩⟩
   ·
    skip
    gi_wp2_with (refine ⟨trivial, ?_⟩; gi_at_call 192; refine (callsIn_wide.2 ST.out).mono ?_; rintro e w1 ⟨rfl, h1, h2⟩; obtain ⟨A', c', B', d', hs⟩ := h1; have HQ := h_ hs; have CG := h_ h2; have z8 : (w1.alloc (.cells #[.int .i64 p.1, .int .i64 p.2.1, .int .i64 p.2.2] 81)).cell? ⟨g, 8, none⟩ = some (.func (.func 198) #[] #[]) := ((Chg.refl [] w1).alloc _).cell (show w1.cell? ⟨g, 8, none⟩ = some (.func (.func 198) #[] #[]) from (cell_of hs.hg 8).trans rfl) (by simp); clear hs h2)
    clear z0 z4 c1 c2
    obtain ⟨w2, hw2, c2', b2⟩ := news1 w1 (.cells #[.int .i64 p.1, .int .i64 p.2.1, .int .i64 p.2.2] 81)
    rw [← hw2] at z8 ⊢
    have B2 := h_ b2
    have C2 := h_ (CG.out.trans (c2'.mono (S' := [g]) (by simp)))
    replace HQ := h_ (HQ.out.chg c2' (by simp) (by simp))
    clear hw2 c2' b2
    generalize w1.heap.size = gp at *
    gi_wp2_with (refine ⟨trivial, ?_⟩; gi_at_call 198; refine (callsIn_wide.2 (KI.out _)).mono ?_; rintro e w3 ⟨rfl, hc⟩; have C3 := h_ hc; have b3 := hc.at_ B2.out (by simp); have y0 := cell_of b3 0; have y1 := cell_of b3 1; have y2 := cell_of b3 2; simp only [gA, gY, gZ] at y0 y1 y2; clear b3; obtain ⟨fn, tmps, assign, body, hy, hRn⟩ := HYF.out w3 (C2.out.trans (hc.mono (by simp))); clear hc)
    refine hRn.mono ?_
    clear y0 y1 y2 hy
    rintro e w4 (⟨rfl, hJ4, hk4⟩ | ⟨rfl, hx⟩)
    ·
     have J4 := h_ hJ4
     have K4 := h_ hk4
     clear hJ4 hk4 hRn
     gi_wp2
     gi_roundg (dotsN la + dotsN lb)
     case measure => exact HG.out
     case rel => exact ⟨la', lb', pre ++ [p], ND, h_ ((show SwP w3 g X la' lb' 198 from ⟨_, _, _, _, HQ.out.chg C3.out (by simp) (by simp)⟩).kpt K4.out hg1 hX), J4.out, h_ (Nat.le_trans HN.out (Nat.le_trans C2.out.size (Nat.le_trans C3.out.size K4.out.size))), SO.out.dec⟩
    ·
     have JX := h_ hx
     clear hx hRn
     gi_wp2
     refine bodyPost_ret (results_none rfl _ _ _) rfl ?_
     exact ⟨⟨_, rfl⟩, .inr ⟨_, JX.out⟩⟩
end
section
open Go.RowKit Go.Lib
attribute [local go_sem] Oper.semAt_some


theorem kpt_chg {S T : List Nat} {n : Nat} {W w9 : World} (h : Chg S W w9) (hn : n ≤ W.heap.size) (hS : ∀ z ∈ S, n ≤ z ∨ z ∈ T) : Kpt n T W w9 :=
 ⟨h.os, h.tape, h.output, h.size, fun k hk hT => h.block k (by omega) (fun hm => by rcases hS k hm with e | e; omega; exact hT e)⟩
theorem keeps_chg {S : List Nat} {W w9 : World} (h : Chg S W w9) (hS : ∀ z ∈ S, ∀ o, W.heap[z]? = some o → o.isCells = true) : KeepsOthers W w9 := by
 refine ⟨h.size, fun k o hk ho => ?_⟩
 by_cases hm : k ∈ S
 ·
  have := hS k hm o hk
  rw [ho] at this
  cases this
 ·
  exact h.at_ hk hm
set_option maxRecDepth 100000 in
theorem merged_either (w : World) (g : Nat) (X : List Nat) (a b : List Sp) (h : SwP w g X a b 198) (hX : ∀ z ∈ X, z < w.heap.size) (ha : WfC a) (hb : WfC b) (hl : a.length + b.length ≤ 10000) :
  Calls Tryz.prog 199 #[.pointer (some ⟨g, 0, none⟩)] w fun e w' => ∃ pre, SwInv kE a b [] [] pre ∧ (((pre.foldl pushP []).length ≤ 4000 ∧ ∃ A c, e = .returned (.tuple #[.slice A (pre.foldl pushP []).length c, .int .i64 0]) ∧ OwnK spanTy w' A c (pre.foldl pushP []) ∧ ∀ y, A = some y → w.heap.size ≤ y.block) ∨ 4000 < (pre.foldl pushP []).length ∧ e = .returned (.tuple #[.slice none 0 0, .int .i64 8])) ∧ Chg [g] w w' := by
 have HS := h_ h
 have LG := h_ (show g < w.heap.size from by obtain ⟨_, _, _, _, q⟩ := h; exact lt_of_heap q.hg)
 clear h
 refine (callsIn_wide (n := 5)).1 ?_
 refine callsIn_of_wp_marks Tryz.func199 rfl trivial ?_ rfl
 simp only [Tryz.ntmps199, List.size_toArray, List.length_cons, List.length_nil, Nat.reduceAdd, Nat.reduceSub, Array.replicate_succ, Array.replicate_zero, List.push_toArray, List.append_toArray, List.nil_append, List.cons_append]
 obtain ⟨V, hV, CV, b0⟩ := news1 w (.cells #[.slice none 0 0] 23)
 have hsV : V.heap.size = w.heap.size + 1 := by rw [hV]; simp
 have HV := h_ hV
 have BOXN := h_ (show g ≠ w.heap.size from by have := LG.out; omega)
 clear hV
 gi_wp2
 rw [← HV.out]
 have lg := LG.out
 refine range_boundx (gf := 156) (bd := #[.pointer (some ⟨g, 0, none⟩)]) (lb := #[]) rfl (enters_of Tryz.func156 (by kernel_rfl) rfl) (encs := fun x : Sp => #[.agg #[.int .i64 x.1, .int .i64 x.2.1, .int .i64 x.2.2]]) (n₁ := V.heap.size) (Nat.le_refl _)
  (S := fun pre => SwInv kE a b [] [] pre) (Sp := fun _ => True) (Ex := fun pre x _ => B3 x ∧ (∀ y ∈ pre, Le y x) ∧ pre.length < potP a b ∧ ∀ n s, InS x n s → kE (memb a n s) (memb b n s) = true) (Bd := fun _ => True) (Si := [g]) (T := [w.heap.size]) ?si ?seq (fun _ => rfl)
  (fun pre W => ((∀ y ∈ pre, B3 y) ∧ pre.Pairwise Le) ∧ (∃ B d, W.heap[w.heap.size]? = some (.cells #[.slice B (pre.foldl pushP []).length d] 23 (0, 0)) ∧ OwnK spanTy W B d (pre.foldl pushP []) ∧ ∀ a, B = some a → V.heap.size ≤ a.block) ∧ Chg [g] w W ∧ V.heap.size ≤ W.heap.size)
  (fun _ _ _ => False) ?keep ?keepx ?kl ?kxl ?bd ⟨⟨by simp, List.Pairwise.nil⟩, ⟨none, 0, b0, OwnK.none_ _, by simp⟩, CV.mono (by simp), Nat.le_refl _⟩ ?elem ?elemA
  (fun x => .cells #[.int .i64 x.1, .int .i64 x.2.1, .int .i64 x.2.2] 81) (fun _ => rfl)
  (fun x nb => { tmps := #[.pointer (some ⟨g, 0, none⟩), undef, .slice none 0 0, .int .i64 0, .pointer (some ⟨w.heap.size, 0, none⟩), .pointer (some ⟨nb, 0, none⟩), .pointer (some ⟨g, 0, none⟩), .func (.func 156) #[.pointer (some ⟨g, 0, none⟩)] #[], .agg #[.int .i64 x.1, .int .i64 x.2.1, .int .i64 x.2.2], undef, undef, undef, undef, undef, undef, undef], defers := [] }) ?assign ?body ?done ?stop
 case si => intro x hx; simp at hx; omega
 case seq =>
  intro l' J Jx W hW hJ hJx hJb hY h0
  have hs2 := hW.size
  have sw : SwP W g X a b 198 := (HS.out.chg CV (by simp) (by simp)).chg (Chg.ofBelow hW (Nat.le_refl _) []) (by simp) (by simp)
  refine (kept_either 3 l' V.heap.size g [w.heap.size] X a b J Jx W ⟨by omega, by simp; omega⟩ (fun z hz => by have := hX z hz; simp; omega) (by omega) hJ hY sw ha hb h0).mono ?_
  rintro e W' ⟨h1, h2 | ⟨pre, h2⟩⟩
  ·
   exact ⟨h1, .inl h2⟩
  ·
   exact ⟨h1, .inr ⟨pre, trivial, h2⟩⟩
 case keep =>
  rintro pre A' B' ⟨hp, ⟨B, d, e1, hO, hB⟩, hC, hz⟩ hb
  exact ⟨hp, ⟨B, d, hb.at_ e1 (by simp; omega), hO.chg hb (fun a ha => by have := hB a ha; simp; omega), hB⟩, hC.trans hb, Nat.le_trans hz hb.size⟩
 case keepx => rintro c pre A B h; exact h.elim
 case kl =>
  rintro pre W l o o' hl ho hll ⟨hp, ⟨B, d, e1, hO, hB⟩, hC, hz⟩
  exact ⟨hp, ⟨B, d, (World.putObj_heap_other (by omega)).trans e1, hO.putl hl ho, hB⟩, hC.putl (by omega), by simpa [World.putObj] using hz⟩
 case kxl => rintro c pre W l o o' hl ho hll h; exact h.elim
 case bd => exact fun _ _ _ => trivial
 case elem => rintro pre x W l o o' hl ho hx; exact hx
 case elemA => rintro pre x W o hx; exact hx
 case assign =>
  intro l x W K hK
  clear hsV lg
  gi_wp2
  exact hK
 case body =>
  rintro l' nb pre x W hnb hbx ⟨hp, ⟨B, d, e1, hO, hB⟩, hC, hz⟩ ⟨hx, hle, hcnt, -⟩
  have HP := h_ hp
  have HX3 := h_ hx
  have HLE := h_ hle
  have LEN : Hid ((pre.foldl pushP []).length ≤ 100000) := h_ (by have h1 := (fold_props pre [] (by simp) hp.1).2; rw [List.length_nil, Nat.zero_add] at h1; have := pot_le a b; omega)
  have ALL := h_ ((fold_props pre [] (by simp) hp.1).1)
  have SNOC : Hid ((pre ++ [x]).foldl pushP [] = pushP (pre.foldl pushP []) x) := h_ (by simp)
  have HO := h_ hO
  have F1 := h_ e1
  have HC := h_ hC
  have HZ := h_ hz
  have HBB := h_ hB
  have HSV := h_ hsV
  have y0 := ce1 e1
  obtain ⟨x0, x1, x2⟩ := ce3 hbx
  clear hO e1 hC hz hB hsV lg hp hx hle hcnt hbx
  have PU := h_ (push_any W d x B (pre.foldl pushP []) HO.out LEN.out ALL.out)
  generalize hout : pre.foldl pushP [] = out at *
  gi_wp2_with (refine ⟨trivial, ?_⟩; gi_at_call 212; refine (CallsIn.inRound l' (callsIn_wide.2 PU.out)).mono ?_; rintro e w9 ⟨A9, c9, rfl, ho, hA, hc⟩; have c99 := hc (blkOf B) (fun a ha => mem_blkOf ha); have hne : w.heap.size ∉ blkOf B := fun hm => (by obtain ⟨y, hy, e⟩ := of_blkOf hm; have := HBB.out y hy; have := HSV.out; omega); have p5 := c99.at_ F1.out hne; have k5 := cell_of p5 0; have f5 := free_of p5 0; simp only [gA, gZ] at k5; have P5 := h_ p5; have O9 := h_ ho; have A9H := h_ hA; have C9 := h_ c99; clear ho hA hc c99 hne p5)
  have hsv := HSV.out
  have hz := HZ.out
  have hs9 := C9.out.size
  have nB : ∀ z ∈ blkOf B, V.heap.size ≤ z := fun z hz => by obtain ⟨y, hy, rfl⟩ := of_blkOf hz; exact HBB.out y hy
  have nA : ∀ y, A9 = some y → V.heap.size ≤ y.block := fun y hy => by
   rcases A9H.out with e | e
   ·
    exact HBB.out y (e ▸ hy)
   ·
    have := e y hy; omega
  have st := (Chg.refl [w.heap.size] w9).setCell (p := ⟨w.heap.size, 0, none⟩) (.inl (by simp)) (.slice A9 (pushP out x).length c9)
  refine ⟨(keeps_chg C9.out (fun z hz o ho => by obtain ⟨y, hy, rfl⟩ := of_blkOf hz; exact HO.out.cells _ _ (by rw [hy]; rfl) ho)).trans (KeepsOthers.setCell _ _ _), (kpt_chg (n := V.heap.size) (T := [w.heap.size]) C9.out hz (fun z hz => .inl (nB z hz))).trans (Kpt.of_chg st (by omega)), ⟨fun y hy => ?_, List.pairwise_append.2 ⟨HP.out.2, by simp, fun y hy z hz2 => by simp at hz2; subst hz2; exact HLE.out y hy⟩⟩, ⟨A9, c9, ?_, ?_, nA⟩, ?_, ?_⟩
  ·
   rcases List.mem_append.1 hy with q | q
   ·
    exact HP.out.1 y q
   ·
    simp at q; subst q; exact HX3.out
  ·
   have := heap_setCell_same w9 w.heap.size 0 _ _ (.slice A9 (pushP out x).length c9) P5.out
   rw [SNOC.out]
   simpa using this
  ·
   rw [SNOC.out]
   exact O9.out.chg st (fun a ha => by have := nA a ha; simp; omega)
  ·
   exact (HC.out.trans' C9.out (fun z hz => .inr (by have := nB z hz; omega))).trans' st (fun z hz => by simp at hz; subst hz; exact .inr (Nat.le_refl _))
  ·
   have := st.size
   omega
 case done =>
  rintro D ys W hD hS ⟨hp, ⟨B, d, e1, hO, hB⟩, hC, hz⟩ hK
  have HSW := h_ hS
  have HO := h_ hO
  have HBB := h_ hB
  have HC := h_ hC
  have HSV := h_ hsV
  have k1 := ce1 e1
  clear hS e1 hO hB hC hz hp hsV lg
  by_cases hfew : (ys.foldl pushP []).length ≤ 4000
  ·
   gi_wp2_with (refine ⟨trivial, ?_⟩; gi_at_call 213; refine (callsIn_wide.2 (bounded_few _ _ _ _ hfew)).mono ?_; rintro e w9 ⟨rfl, hc⟩; have C9 := h_ hc; have k9 := hc.at_ hK (by simp); clear hc)
   refine ⟨by simp, .inl ⟨_, _, rfl, run_takeDeferred k9, ?_⟩⟩
   refine ⟨_, results_tmp2 rfl _ _ _, ys, HSW.out, .inl ⟨hfew, B, d, rfl, (HO.out.chg C9.out (by simp)).putl k9 rfl, fun y hy => by have := HBB.out y hy; have := HSV.out; omega⟩, (HC.out.trans (C9.out.mono (by simp))).putl (by have := HSV.out; omega)⟩
  ·
   have hmany : 4000 < (ys.foldl pushP []).length := by omega
   gi_wp2_with (refine ⟨trivial, ?_⟩; gi_at_call 213; refine (callsIn_wide.2 (bounded_many _ _ _ _ hmany)).mono ?_; rintro e w9 ⟨rfl, hc⟩; have C9 := h_ hc; have k9 := hc.at_ hK (by simp); clear hc)
   refine ⟨by simp, .inl ⟨_, _, rfl, run_takeDeferred k9, ?_⟩⟩
   refine ⟨_, results_tmp2 rfl _ _ _, ys, HSW.out, .inr ⟨hmany, rfl⟩, (HC.out.trans (C9.out.mono (by simp))).putl (by have := HSV.out; omega)⟩
 case stop => rintro D c xs V _ _ h; exact h.elim
end
section
open Go.RowKit Go.Lib


set_option maxRecDepth 100000 in
theorem join_any (w : World) (A : Option Addr) (c : Nat) (xs : List Sp) (B : Option Addr) (d : Nat) (ys : List Sp) (h : RdK spanTy w A xs.length xs) (hc : xs.length ≤ c ∧ c ≤ maxLen) (ho : ∀ a, A = some a → a.block < w.heap.size) (h' : RdK spanTy w B ys.length ys) (hd : ys.length ≤ d ∧ d ≤ maxLen) (ho' : ∀ a, B = some a → a.block < w.heap.size) (hn : xs.length ≤ 140737488351232) (hm : ys.length ≤ 140737488351232) :
  Calls Tryz.prog 166 #[.slice A xs.length c, .slice B ys.length d] w fun e w' => ∃ A' c', e = .returned (.tuple #[.slice A' (joinE xs ys).2.length c', .int .i64 (joinE xs ys).1]) ∧ OwnK spanTy w' A' c' (joinE xs ys).2 ∧ (∀ a, A' = some a → w.heap.size ≤ a.block) ∧ Chg [] w w' := by
 have H := h_ h
 have H' := h_ h'
 have HC := h_ hc
 have HD := h_ hd
 have HO := h_ ho
 have HO' := h_ ho'
 have HN := h_ (show xs.length ≤ 140737488351232 ∧ ys.length ≤ 140737488351232 from ⟨hn, hm⟩)
 clear h h' hc hd ho ho' hn hm
 have M := h_ (may_any w A xs.length c xs H.out HN.out.1 B ys.length d ys H'.out HN.out.2)
 by_cases hk : chkS xs = 0 ∧ chkS ys = 0
 ·
  have eE : joinE xs ys = boundP (tidyS (xs ++ ys)) := by unfold joinE; rw [if_pos hk]
  rw [decide_eq_true hk] at M
  rw [eE]
  generalize hRR : boundP (tidyS (xs ++ ys)) = RR
  have HRR := h_ hRR
  clear hRR
  obtain ⟨wa, la⟩ := wf_of_chk hk.1
  obtain ⟨wb, lb⟩ := wf_of_chk hk.2
  have WA := h_ wa
  have WB := h_ wb
  have LL := h_ (show xs.length + ys.length ≤ 10000 by omega)
  clear hk wa wb la lb eE
  go_enter Tryz.func166, Tryz.ntmps166
  go_wp2_with fail
  refine M.out.mono ?_
  rintro e w1 ⟨rfl, h1⟩
  have C1 := h_ h1
  clear h1 M; go_wp2_with fail
  refine (over_any w1 A c xs B d ys 198 (blkOf A ++ blkOf B) (H.out.chg C1.out (by simp)) HC.out (fun a ha => Nat.lt_of_lt_of_le (HO.out a ha) C1.out.size) (H'.out.chg C1.out (by simp)) HD.out (fun a ha => Nat.lt_of_lt_of_le (HO'.out a ha) C1.out.size) (fun a ha => List.mem_append_left _ (mem_blkOf ha)) (fun a ha => List.mem_append_right _ (mem_blkOf ha)) (fun z hz => ?_)).mono ?_
  ·
   rcases List.mem_append.1 hz with e | e
   ·
    obtain ⟨y, hy, rfl⟩ := of_blkOf e
    exact Nat.lt_of_lt_of_le (HO.out y hy) C1.out.size
   ·
    obtain ⟨y, hy, rfl⟩ := of_blkOf e
    exact Nat.lt_of_lt_of_le (HO'.out y hy) C1.out.size
  rintro e w2 ⟨g, rfl, h1, h2, h3⟩
  have SW := h_ h1
  have GG := h_ h2
  have C2 := h_ h3
  have BX : Hid (∀ z ∈ blkOf A ++ blkOf B, z < w2.heap.size) := h_ (fun z hz => by
   have s1 := C1.out.size
   have s2 := C2.out.size
   rcases List.mem_append.1 hz with e | e
   ·
    obtain ⟨y, hy, rfl⟩ := of_blkOf e
    have := HO.out y hy; omega
   ·
    obtain ⟨y, hy, rfl⟩ := of_blkOf e
    have := HO'.out y hy; omega)
  clear h1 h2 h3; go_wp2_with fail
  refine (merged_either w2 g _ xs ys SW.out BX.out WA.out WB.out LL.out).mono ?_
  rintro e w3 ⟨pre, hs, hor, hc3⟩
  rw [join_eq WA.out WB.out hs] at hor
  have C3 := h_ ((C1.out.trans C2.out).trans' hc3 (fun z hz => by simp at hz; subst hz; exact .inr (Nat.le_trans C1.out.size GG.out)))
  have S2 := h_ (show w.heap.size ≤ w2.heap.size from Nat.le_trans C1.out.size C2.out.size)
  clear hs hc3
  generalize tidyS (xs ++ ys) = R at *
  rcases hor with ⟨hl, A', c', rfl, hO, hA⟩ | ⟨hl, rfl⟩
  ·
   have eB : boundP R = (0, R) := by unfold boundP; rw [if_neg (by omega)]
   obtain rfl : RR = (0, R) := by rw [← HRR.out]; exact eB
   have OO := h_ hO
   have AA := h_ hA
   clear hO hA hl eB; go_wp2; go_ret2
   exact ⟨A', c', rfl, OO.out, fun a ha => Nat.le_trans S2.out (AA.out a ha), C3.out⟩
  ·
   have eB : boundP R = (8, []) := by unfold boundP; rw [if_pos hl]
   obtain rfl : RR = (8, []) := by rw [← HRR.out]; exact eB
   clear hl eB; go_wp2; go_ret2
   exact ⟨none, 0, rfl, OwnK.none_ _, by simp, C3.out⟩
 ·
  have eE : joinE xs ys = (2, []) := by unfold joinE; rw [if_neg hk]
  rw [decide_eq_false hk] at M
  rw [eE]
  clear hk eE
  go_enter Tryz.func166, Tryz.ntmps166
  go_wp2_with fail
  refine M.out.mono ?_
  rintro e w1 ⟨rfl, h1⟩
  have C1 := h_ h1
  clear h1 M; go_wp2; go_ret2
  exact ⟨none, 0, rfl, OwnK.none_ _, by simp, C1.out⟩
end
section
open Go.RowKit Go.Lib


set_option maxRecDepth 100000 in
theorem add_any (w : World) (A : Option Addr) (c : Nat) (xs : List Sp) (n s : Int) (h : RdK spanTy w A xs.length xs) (hc : xs.length ≤ c ∧ c ≤ maxLen) (ho : ∀ a, A = some a → a.block < w.heap.size) (hn : xs.length ≤ 140737488351232) :
  Calls Tryz.prog 110 #[.slice A xs.length c, .agg #[.int .i64 n, .int .i64 s]] w fun e w' => ∃ A' c', e = .returned (.tuple #[.slice A' (joinE xs [(n, s, s)]).2.length c', .int .i64 (joinE xs [(n, s, s)]).1]) ∧ OwnK spanTy w' A' c' (joinE xs [(n, s, s)]).2 ∧ (∀ a, A' = some a → w.heap.size ≤ a.block) ∧ Chg [] w w' := by
 obtain ⟨w1, hw1, c1, b1⟩ := news1 w (.cells #[.int .i64 n, .int .i64 s] 35)
 have W1 := h_ hw1
 have C1 := h_ c1
 have B1 := h_ b1
 have H := h_ (h.chg c1 (by simp))
 have HC := h_ hc
 have HO := h_ (fun a ha => Nat.lt_of_lt_of_le (ho a ha) c1.size)
 have HN := h_ hn
 clear hw1 c1 b1 h hc ho hn
 go_enter Tryz.func110, Tryz.ntmps110
 go_upto_region 1 with fail
 rw [← W1.out]
 generalize hg0 : w.heap.size = g0 at *
 obtain ⟨z0, z1⟩ := ce2 B1.out
 go_wp2_with fail
 refine (alone_any w1 n s).mono ?_
 rintro e w2 ⟨rfl, hc⟩
 have C2 := h_ (C1.out.trans hc)
 replace H := h_ (H.out.chg hc (by simp))
 replace HO := h_ (fun a ha => Nat.lt_of_lt_of_le (HO.out a ha) hc.size)
 clear hc z0 z1
 obtain ⟨w3, hw3, c3, b3⟩ := news1 w2 (.cells #[.int .i64 n, .int .i64 s, .int .i64 s] 81)
 have W3 := h_ hw3
 have HR := h_ (rd_oneS (x := (n, s, s)) b3)
 have LT := h_ (lt_of_heap b3)
 replace H := h_ (H.out.chg c3 (by simp))
 replace HO := h_ (fun a ha => Nat.lt_of_lt_of_le (HO.out a ha) c3.size)
 have C3 := h_ (C2.out.trans c3)
 clear hw3 c3 b3
 generalize hjj : joinE xs [(n, s, s)] = jj at *
 have HJJ := h_ hjj
 clear hjj; go_wp2_with fail
 rw [← W3.out]
 refine (join_any w3 A c xs (some ⟨w2.heap.size, 0, none⟩) 1 [(n, s, s)] H.out HC.out HO.out HR.out ⟨Nat.le_refl _, by simp [maxLen]⟩ (fun a ha => by cases ha; exact LT.out) HN.out (by simp)).mono ?_
 rintro e w4 ⟨A', c', rfl, h1, h2, h3⟩
 have e9 := HJJ.out
 subst e9
 have O4 := h_ h1
 have N4 := h_ h2
 have C4 := h_ (C3.out.trans h3)
 have SZ := h_ C3.out.size
 clear h1 h2 h3; go_wp2; go_ret2
 exact ⟨A', c', rfl, O4.out, fun a ha => by have := N4.out a ha; have := SZ.out; omega, C4.out⟩
end
section
open Go.RowKit Go.Lib


set_option maxRecDepth 100000 in
theorem edwith_any (w : World) (n : Int) (B : Option Addr) (bc : Nat) (q : List Sp) (a s : Int) (h : RdK spanTy w B q.length q) (hb : q.length ≤ bc ∧ bc ≤ maxLen) (ho : ∀ x, B = some x → x.block < w.heap.size) (hn : q.length ≤ 140737488351232) :
  Calls Tryz.prog 62 #[.agg #[.int .i64 n, .slice B q.length bc], .agg #[.int .i64 a, .int .i64 s]] w fun r w' => ∃ A' c', r = .returned (.tuple #[.agg #[.int .i64 n, .slice A' (joinE q [(a, s, s)]).2.length c'], .int .i64 (joinE q [(a, s, s)]).1]) ∧ OwnK spanTy w' A' c' (joinE q [(a, s, s)]).2 ∧ (∀ x, A' = some x → w.heap.size ≤ x.block) ∧ Chg [] w w' := by
 obtain ⟨w1, hw, hc, b0, b1, b2⟩ := news3 w (.cells #[.int .i64 n, .slice B q.length bc] 94) (.cells #[.int .i64 a, .int .i64 s] 35) (.cells #[.int .i64 0, .slice none 0 0] 94)
 have W1 := h_ hw
 have H := h_ (h.chg hc (by simp))
 have HO := h_ (fun x hx => Nat.lt_of_lt_of_le (ho x hx) hc.size)
 have C := h_ (hc)
 have B0 := h_ (b0)
 have B1 := h_ (b1)
 have B2 := h_ (b2)
 have HN := h_ (hn)
 have HB := h_ (hb)
 generalize hv : joinE q [(a, s, s)] = v
 have HV := h_ hv
 clear hw hc b0 b1 b2 h hn hb ho hv
 go_enter Tryz.func62, Tryz.ntmps62
 go_upto_region 1 with fail
 rw [← W1.out]
 generalize hz2 : w.heap.size + 2 = g2 at *
 generalize hz1 : w.heap.size + 1 = g1 at *
 generalize hz0 : w.heap.size = g0 at *
 have Z := h_ (And.intro hz0 (And.intro hz1 (hz2)))
 have n01 : ¬ g0 = g1 := by omega
 have n02 : ¬ g0 = g2 := by omega
 have n10 : ¬ g1 = g0 := by omega
 have n12 : ¬ g1 = g2 := by omega
 have n20 : ¬ g2 = g0 := by omega
 have n21 : ¬ g2 = g1 := by omega
 clear W1 hz0 hz1 hz2
 obtain ⟨z0, z1⟩ := ce2 B0.out
 obtain ⟨y0, y1⟩ := ce2 B1.out
 go_wp2_with fail; clear z0 z1; clear y0 y1
 refine (add_any w1 B bc q a s H.out HB.out HO.out HN.out).mono ?_
 rintro r w2 ⟨A2, c2, rfl, ho, hnw, hc⟩
 rw [HV.out] at ho ⊢
 have O := h_ ho
 have N : Hid (∀ x, A2 = some x → g2 < x.block) := h_ (fun x hx => by have := hnw x hx; have := lt_of_heap B2.out; omega)
 replace C := h_ (C.out.trans hc)
 replace B0 := h_ (hc.at_ B0.out (by simp))
 replace B1 := h_ (hc.at_ B1.out (by simp))
 replace B2 := h_ (hc.at_ B2.out (by simp))
 clear ho hnw hc
 obtain ⟨e, l⟩ := v
 have z0 := cell_of B0.out 0
 have z1 := cell_of B0.out 1
 have fz0 := free_of B0.out 0
 have fz1 := free_of B0.out 1
 simp only [gA, gY, gZ] at z0 z1
 go_upto_region 3 with fail
 clear z0 z1 fz0 fz1
 have p0 : (w2.setCell ⟨g0, 1, none⟩ (.slice A2 l.length c2)).heap[g0]? = some (.cells #[.int .i64 n, .slice A2 l.length c2] 94 (0, 0)) := heap_setCell_same _ g0 1 _ _ (.slice A2 l.length c2) B0.out
 have k0 := (Chg.refl [g0] w2).put' 1 (.slice A2 l.length c2)
 have p2 := k0.at_ B2.out (by simp; exact n20)
 have o3 := O.out.chg k0 (fun x hx => by have := N.out x hx; have := Z.out; simp; omega)
 have c3 := C.out.trans' k0 (fun i hi => .inr (by have := Z.out; simp at hi; omega))
 generalize (w2.setCell ⟨g0, 1, none⟩ (.slice A2 l.length c2)) = w3 at *
 replace B0 := h_ p0
 replace B2 := h_ p2
 replace O := h_ o3
 replace C := h_ c3
 clear p0 p2 o3 c3 k0 B1
 obtain ⟨z0, z1⟩ := ce2 B0.out
 have t0 := cell_of B2.out 0
 have t1 := cell_of B2.out 1
 have ft0 := free_of B2.out 0
 have ft1 := free_of B2.out 1
 simp only [gA, gY, gZ] at t0 t1
 go_wp2
 refine bodyPost_ret (v := .tuple #[.agg #[.int .i64 n, .slice A2 l.length c2], .int .i64 e]) (by simp [results, Tryz.results62, go_sem, t0, t1]) rfl ?_
 exact ⟨A2, c2, rfl, O.out.chg (((Chg.refl [g2] w3).put' 0 _).put' 1 _) (fun x hx => by have := N.out x hx; simp; omega), (fun x hx => by have := N.out x hx; have := Z.out; omega), C.out.trans' (((Chg.refl [g2] w3).put' 0 _).put' 1 _) (fun i hi => .inr (by have := Z.out; simp at hi; omega))⟩

set_option maxRecDepth 100000 in
theorem edlearn_any (w : World) (n : Int) (B : Option Addr) (bc : Nat) (q : List Sp) (a s : Int) (h : RdK spanTy w B q.length q) (hb : q.length ≤ bc ∧ bc ≤ maxLen) (ho : ∀ x, B = some x → x.block < w.heap.size) (hn : q.length ≤ 140737488351232) :
  Calls Tryz.prog 24 #[.agg #[.int .i64 n, .slice B q.length bc], .agg #[.int .i64 a, .int .i64 s]] w fun r w' => ∃ A' c', r = .returned (.tuple #[.agg #[.int .i64 (learnA n q a s).2.1, .slice A' (learnA n q a s).2.2.length c'], .int .i64 (learnA n q a s).1]) ∧ OwnK spanTy w' A' c' (learnA n q a s).2.2 ∧ (∀ a, A' = some a → w.heap.size ≤ a.block) ∧ Chg [] w w' := by
 obtain ⟨w1, hw, hc, b0, b1, b2⟩ := news3 w (.cells #[.int .i64 n, .slice B q.length bc] 25) (.cells #[.int .i64 a, .int .i64 s] 35) (.cells #[.int .i64 0, .slice none 0 0] 25)
 have W1 := h_ hw
 have H := h_ (h.chg hc (by simp))
 have C := h_ (hc)
 have B0 := h_ (b0)
 have B1 := h_ (b1)
 have B2 := h_ (b2)
 have HN := h_ (hn)
 have HO := h_ (fun x hx => Nat.lt_of_lt_of_le (ho x hx) hc.size)
 have HB := h_ (hb)
 generalize hv : learnA n q a s = v
 have HV := h_ hv
 clear hw hc b0 b1 b2 h hn hb ho hv
 go_enter Tryz.func24, Tryz.ntmps24
 go_upto_region 1 with fail
 rw [← W1.out]
 generalize hz2 : w.heap.size + 2 = g2 at *
 generalize hz1 : w.heap.size + 1 = g1 at *
 generalize hz0 : w.heap.size = g0 at *
 have Z := h_ (And.intro hz0 (And.intro hz1 (hz2)))
 have n01 : ¬ g0 = g1 := by omega
 have n02 : ¬ g0 = g2 := by omega
 have n10 : ¬ g1 = g0 := by omega
 have n12 : ¬ g1 = g2 := by omega
 have n20 : ¬ g2 = g0 := by omega
 have n21 : ¬ g2 = g1 := by omega
 clear W1 hz0 hz1 hz2
 obtain ⟨z0, z1⟩ := ce2 B0.out
 go_wp2_with fail; clear z0 z1
 refine (edcheck_any w1 n B q.length bc q H.out HN.out).mono ?_
 rintro r w2 ⟨rfl, hc⟩
 replace C := h_ (C.out.trans hc)
 replace B0 := h_ (hc.at_ B0.out (by simp))
 replace B1 := h_ (hc.at_ B1.out (by simp))
 replace B2 := h_ (hc.at_ B2.out (by simp))
 replace H := h_ (H.out.chg hc (by simp))
 replace HO := h_ (fun x hx => Nat.lt_of_lt_of_le (HO.out x hx) hc.size)
 clear hc
 rcases chkA_two n q with hk | hk
 rotate_left
 ·
  skip
  obtain rfl : v = (2, 0, []) := by rw [← HV.out]; unfold learnA; rw [if_neg (by rw [hk]; decide)]
  rw [hk]
  clear hk
  have t0 := cell_of B2.out 0
  have t1 := cell_of B2.out 1
  have ft0 := free_of B2.out 0
  have ft1 := free_of B2.out 1
  simp only [gA, gY, gZ] at t0 t1
  go_wp2
  refine bodyPost_ret (v := .tuple #[.agg #[.int .i64 0, .slice none 0 0], .int .i64 2]) (by simp [results, Tryz.results24, go_sem, t0, t1]) rfl ?_
  exact ⟨none, 0, rfl, OwnK.none_ _, by simp, C.out.trans' (((Chg.refl [g2] w2).put' 0 _).put' 1 _) (fun i hi => .inr (by have := Z.out; simp at hi; omega))⟩
 have LV : Hid (v = if (joinE q [(a, s, s)]).1 = 0 then (0, n, (joinE q [(a, s, s)]).2) else ((joinE q [(a, s, s)]).1, 0, [])) := h_ (by rw [← HV.out]; unfold learnA; rw [if_pos hk])
 rw [hk]
 clear hk HV
 obtain ⟨z0, z1⟩ := ce2 B0.out
 obtain ⟨y0, y1⟩ := ce2 B1.out
 go_wp2_with fail; clear z0 z1; clear y0 y1
 refine (edwith_any w2 n B bc q a s H.out HB.out HO.out HN.out).mono ?_
 rintro r w3 ⟨A3, c3, rfl, ho, hnw, hc⟩
 generalize joinE q [(a, s, s)] = j at *
 obtain ⟨e, l⟩ := j
 have LW : Hid (v = if e = 0 then (0, n, l) else (e, 0, [])) := h_ LV.out
 have O := h_ ho
 have N : Hid (∀ x, A3 = some x → g2 < x.block) := h_ (fun x hx => by have := hnw x hx; have := lt_of_heap B2.out; omega)
 replace C := h_ (C.out.trans hc)
 replace B2 := h_ (hc.at_ B2.out (by simp))
 clear ho hnw hc LV
 dsimp only at O ⊢
 obtain ⟨w4, hw, hc, b6⟩ := news1 w3 (.cells #[.int .i64 n, .slice A3 l.length c3] 94)
 have W4 := h_ hw
 have B6 := h_ b6
 have N6 : Hid (¬ g2 = w3.heap.size) := h_ (by have := lt_of_heap B2.out; omega)
 replace O := h_ (O.out.chg hc (by simp))
 replace C := h_ (C.out.trans hc)
 replace B2 := h_ (hc.at_ B2.out (by simp))
 clear hw hc b6
 go_upto_region 4 with fail
 rw [← W4.out]
 generalize w3.heap.size = g6 at *
 have n26 : ¬ g2 = g6 := N6.out
 have n62 : ¬ g6 = g2 := fun h => n26 h.symm
 clear W4
 by_cases he : e = 0
 rotate_left
 ·
  skip
  obtain rfl : v = (e, 0, []) := by rw [LW.out, if_neg he]
  have e1 : ((e != 0) : Bool) = true := bne_iff_ne.2 he
  have e2 : ((e == 0) : Bool) = false := beq_eq_false_iff_ne.2 he
  have t0 := cell_of B2.out 0
  have t1 := cell_of B2.out 1
  have ft0 := free_of B2.out 0
  have ft1 := free_of B2.out 1
  simp only [gA, gY, gZ] at t0 t1
  obtain ⟨z0, z1⟩ := ce2 B6.out
  go_wp2
  refine bodyPost_ret (v := .tuple #[.agg #[.int .i64 0, .slice none 0 0], .int .i64 e]) (by simp [results, Tryz.results24, go_sem, t0, t1]) rfl ?_
  exact ⟨none, 0, rfl, OwnK.none_ _, by simp, C.out.trans' (((Chg.refl [g2] w4).put' 0 _).put' 1 _) (fun i hi => .inr (by have := Z.out; simp at hi; omega))⟩
 subst he
 obtain rfl : v = (0, n, l) := by rw [LW.out, if_pos rfl]
 have t0 := cell_of B2.out 0
 have t1 := cell_of B2.out 1
 have ft0 := free_of B2.out 0
 have ft1 := free_of B2.out 1
 simp only [gA, gY, gZ] at t0 t1
 obtain ⟨z0, z1⟩ := ce2 B6.out
 go_wp2
 refine bodyPost_ret (v := .tuple #[.agg #[.int .i64 n, .slice A3 l.length c3], .int .i64 0]) (by simp [results, Tryz.results24, go_sem, t0, t1]) rfl ?_
 exact ⟨A3, c3, rfl, O.out.chg (((Chg.refl [g2] w4).put' 0 _).put' 1 _) (fun x hx => by have := N.out x hx; simp; omega), (fun x hx => by have := N.out x hx; have := Z.out; omega), C.out.trans' (((Chg.refl [g2] w4).put' 0 _).put' 1 _) (fun i hi => .inr (by have := Z.out; simp at hi; omega))⟩
end
section
open Go.RowKit Go.Lib


theorem evP_ext20 {a b : EvP} : (a.n = b.n ∧ a.s = b.s ∧ a.p = b.p ∧ a.k = b.k ∧ a.m = b.m ∧ a.b = b.b ∧ a.q = b.q) ↔ a = b := by
 cases a
 cases b
 simp
instance decEvP20 : DecidableEq EvP := fun a b => decidable_of_iff _ evP_ext20
def fE : EvP := ⟨2, 1, [102], 1, 0, [], []⟩
def gE : EvP := ⟨1, 1, [103], 1, 0, [], []⟩
def fT : EvT := ⟨2, 1, ⟨#[102]⟩, 1, 0, none, 0, 0, none, 0, 0⟩
def gT : EvT := ⟨1, 1, ⟨#[103]⟩, 1, 0, none, 0, 0, none, 0, 0⟩
theorem fR (w : World) : EvR w fT fE := ⟨rfl, rfl, rfl, rfl, rfl, rfl, rfl, ⟨rfl, fun j v hj => by simp [fE] at hj⟩, RdK.nil _ _⟩
theorem gR (w : World) : EvR w gT gE := ⟨rfl, rfl, rfl, rfl, rfl, rfl, rfl, ⟨rfl, fun j v hj => by simp [gE] at hj⟩, RdK.nil _ _⟩
theorem fgR (w : World) : EvsR w [fT, gT] [fE, gE] := ((EvsR.nil w).snoc (fR w)).snoc (gR w)
theorem gfR (w : World) : EvsR w [gT, fT] [gE, fE] := ((EvsR.nil w).snoc (gR w)).snoc (fR w)
theorem fsR (w : World) : EvsR w [fT] [fE] := (EvsR.nil w).snoc (fR w)
theorem fg_sm : ∀ e ∈ [fE, gE], EvSm e ∧ e.q.length ≤ 100000 := fun e h => by
 simp at h
 rcases h with rfl | rfl <;> (constructor <;> simp [EvSm, fE, gE])
theorem k_new3 : newA 3 = (0, 3, []) := by decide +kernel
theorem k_learn1 : learnA 3 [] 1 1 = (0, 3, [(1, 1, 1)]) := by decide +kernel
theorem k_learn2 : learnA 3 [(1, 1, 1)] 2 1 = (0, 3, [(1, 1, 1), (2, 1, 1)]) := by decide +kernel
theorem k_plan0 : planA [fE, gE] 3 [] = [gE, fE] := by decide +kernel
theorem k_plan1 : planA [fE, gE] 3 [(1, 1, 1)] = [fE] := by decide +kernel
theorem k_ag2 : agreedA [fE, gE] 3 [(1, 1, 1), (2, 1, 1)] = true := by decide +kernel
theorem k_ag1 : agreedA [fE, gE] 3 [(1, 1, 1)] = false := by decide +kernel
theorem rd_twoE {w : World} {g : Nat} {x y : EvT} (h : w.heap[g]? = some (.cells #[.int .i64 x.n, .int .i64 x.s, .string x.p, .int .i64 x.k, .int .i64 x.m, .slice x.A x.l x.c, .slice x.B x.bl x.bc, .int .i64 y.n, .int .i64 y.s, .string y.p, .int .i64 y.k, .int .i64 y.m, .slice y.A y.l y.c, .slice y.B y.bl y.bc] 40)) : RdK evTy w (some ⟨g, 0, none⟩) 2 [x, y] :=
 ⟨rfl, fun j v hj => ⟨_, rfl, by rw [add_zero_lit, cell_of h j]; simpa [RowTy.flat, evTy] using hj⟩⟩
set_option maxRecDepth 100000 in
theorem l20one_any (w : World) (n : Int) (p : ByteArray) : Calls Tryz.prog 29 #[.int .i64 n, .string p] w fun r w' => r = .returned (.agg #[.int .i64 n, .int .i64 1, .string p, .int .i64 1, .int .i64 0, .slice none 0 0, .slice none 0 0]) ∧ Chg [] w w' := by
 have C : Hid (Chg [] w (w.alloc (.cells #[.int .i64 n, .int .i64 1, .string p, .int .i64 1, .int .i64 0, .slice none 0 0, .slice none 0 0] 40))) := h_ ((Chg.refl [] w).alloc _)
 have b := heap_alloc_new w (.cells #[.int .i64 n, .int .i64 1, .string p, .int .i64 1, .int .i64 0, .slice none 0 0, .slice none 0 0] 40)
 go_enter Tryz.func29, Tryz.ntmps29
 go_wp2
 obtain ⟨z0, z1, z2, z3, z4, z5, z6⟩ := ce7 b
 refine bodyPost_ret (v := .agg #[.int .i64 n, .int .i64 1, .string p, .int .i64 1, .int .i64 0, .slice none 0 0, .slice none 0 0]) (by simp [results, Tryz.results29, go_sem, z0, z1, z2, z3, z4, z5, z6]) rfl ?_
 exact ⟨rfl, C.out⟩
set_option maxRecDepth 100000 in
theorem l20is_any (w : World) (A B : Option Addr) (c d n m : Nat) (xs ys : List EvT) (es : List EvP) (h : RdK evTy w A n xs) (h' : RdK evTy w B m ys) (hx : EvsR w xs es) (hy : EvsR w ys es) (hn : xs.length ≤ 100000) (hq : ∀ e ∈ es, e.q.length ≤ 140737488351232) :
  Calls Tryz.prog 27 #[.slice A n c, .slice B m d] w fun r w' => r = .returned (.bool true) ∧ Chg [] w w' := by
 have hl := h.len
 have hl' := h'.len
 subst hl hl'
 have CC := sameevs_any w A B c d xs ys es es h h' hx hy ⟨hn, by rw [hy.1, ← hx.1]; exact hn⟩ ⟨hq, hq⟩
 rw [sameL_refl] at CC
 have CH := h_ CC
 clear h h' hx hy hn hq CC
 go_enter Tryz.func27, Tryz.ntmps27
 go_wp2_with fail
 refine CH.out.mono ?_
 rintro r w1 ⟨rfl, hc⟩
 go_wp2; go_ret
 exact ⟨rfl, hc⟩
set_option maxRecDepth 100000 in
theorem l20two_any (w : World) : Calls Tryz.prog 28 #[] w fun r w' => ∃ g, r = .returned (.slice (some ⟨g, 0, none⟩) 2 2) ∧ RdK evTy w' (some ⟨g, 0, none⟩) 2 [fT, gT] ∧ g < w'.heap.size ∧ Chg [] w w' := by
 have C := h_ (Chg.refl [] w)
 go_enter Tryz.func28, Tryz.ntmps28
 go_wp2_with fail
 refine (l20one_any w 2 ⟨#[102]⟩).mono ?_
 rintro r w1 ⟨rfl, hc⟩
 replace C := h_ (C.out.trans hc)
 clear hc; go_wp2_with fail
 refine (l20one_any w1 1 ⟨#[103]⟩).mono ?_
 rintro r w2 ⟨rfl, hc⟩
 replace C := h_ (C.out.trans hc)
 clear hc
 obtain ⟨w3, hw, hc, b⟩ := news1 w2 (.cells #[.int .i64 2, .int .i64 1, .string ⟨#[102]⟩, .int .i64 1, .int .i64 0, .slice none 0 0, .slice none 0 0, .int .i64 1, .int .i64 1, .string ⟨#[103]⟩, .int .i64 1, .int .i64 0, .slice none 0 0, .slice none 0 0] 40)
 have W3 := h_ hw
 have R3 : Hid (RdK evTy w3 (some ⟨w2.heap.size, 0, none⟩) 2 [fT, gT]) := h_ (rd_twoE (x := fT) (y := gT) b)
 have L3 := h_ (lt_of_heap b)
 replace C := h_ (C.out.trans hc)
 clear hw hc b; go_wp2
 rw [← W3.out]
 go_ret
 exact ⟨_, rfl, R3.out, L3.out, C.out⟩
end
section
open Go.RowKit Go.Lib


set_option maxRecDepth 100000 in
theorem l20awake_c (w : World) : Calls Tryz.prog 6 #[] w fun e w' => e = .returned (.bool true) ∧ Chg [] w w' := by

 have NW := ednew_any w 3
 rw [k_new3] at NW
 have NWH := h_ NW
 clear NW
 go_enter Tryz.func6, Tryz.ntmps6
 go_wp2_with fail
 refine NWH.out.mono ?_
 rintro r w1 ⟨A1, c1, rfl, ho, hA, hc⟩
 clear NWH
 obtain ⟨w2, hw, hcn, hb⟩ := news1 w1 (.cells #[.int .i64 3, .slice A1 0 c1] 25)
 have WN := h_ hw
 have D1 := h_ (hc.trans hcn)
 have B1 := h_ hb
 have R1 : Hid (RdK spanTy w2 A1 0 [] ∧ (0 ≤ c1 ∧ c1 ≤ maxLen) ∧ ∀ a, A1 = some a → a.block < w2.heap.size) := h_ ⟨(ho.chg hcn (by simp)).reads, ho.cap, fun a ha => Nat.lt_of_lt_of_le (ho.lt_ a ha) hcn.size⟩
 clear hw hcn hb ho hA hc
 go_upto_region 2 with fail
 rw [← WN.out]
 generalize w1.heap.size = g1 at *
 clear WN
 have F1 : Hid (∀ w', Chg [] w2 w' → (w'.cell? ⟨g1, 0, none⟩ = some (.int .i64 3) ∧ w'.cell? ⟨g1, 1, none⟩ = some (.slice A1 0 c1)) ∧ RdK spanTy w' A1 0 [] ∧ (0 ≤ c1 ∧ c1 ≤ maxLen) ∧ ∀ a, A1 = some a → a.block < w'.heap.size) := h_ (fun w' hc => ⟨⟨cell_of (hc.at_ B1.out (by simp)) 0, cell_of (hc.at_ B1.out (by simp)) 1⟩, R1.out.1.chg hc (by simp), R1.out.2.1, fun a ha => Nat.lt_of_lt_of_le (R1.out.2.2 a ha) hc.size⟩)
 clear B1 R1
 have a01 := F1.out w2 (Chg.refl [] w2)
 have LR := edlearn_any w2 3 A1 c1 [] 1 1 a01.2.1 a01.2.2.1 a01.2.2.2 (by simp)
 rw [k_learn1] at LR
 have LRH := h_ LR
 obtain ⟨⟨a0, a1⟩, -⟩ := a01
 clear LR; go_wp2_with fail
 refine LRH.out.mono ?_
 rintro r w3 ⟨A3, c3, rfl, ho, hA, hc⟩
 clear LRH; clear a0 a1
 obtain ⟨w4, hw, hcn, hb⟩ := news1 w3 (.cells #[.int .i64 3, .slice A3 1 c3] 25)
 have WN := h_ hw
 have D3 := h_ (hc.trans hcn)
 have B3 := h_ hb
 have R3 : Hid (RdK spanTy w4 A3 1 [(1, 1, 1)] ∧ (1 ≤ c3 ∧ c3 ≤ maxLen) ∧ ∀ a, A3 = some a → a.block < w4.heap.size) := h_ ⟨(ho.chg hcn (by simp)).reads, ho.cap, fun a ha => Nat.lt_of_lt_of_le (ho.lt_ a ha) hcn.size⟩
 clear hw hcn hb ho hA hc
 go_upto_region 3 with fail
 rw [← WN.out]
 generalize w3.heap.size = g3 at *
 clear WN
 have F3 : Hid (∀ w', Chg [] w4 w' → (w'.cell? ⟨g3, 0, none⟩ = some (.int .i64 3) ∧ w'.cell? ⟨g3, 1, none⟩ = some (.slice A3 1 c3)) ∧ RdK spanTy w' A3 1 [(1, 1, 1)] ∧ (1 ≤ c3 ∧ c3 ≤ maxLen) ∧ ∀ a, A3 = some a → a.block < w'.heap.size) := h_ (fun w' hc => ⟨⟨cell_of (hc.at_ B3.out (by simp)) 0, cell_of (hc.at_ B3.out (by simp)) 1⟩, R3.out.1.chg hc (by simp), R3.out.2.1, fun a ha => Nat.lt_of_lt_of_le (R3.out.2.2 a ha) hc.size⟩)
 clear B3 R3
 have F1x := F1
 clear F1
 have F1 : Hid (∀ w', Chg [] w4 w' → (w'.cell? ⟨g1, 0, none⟩ = some (.int .i64 3) ∧ w'.cell? ⟨g1, 1, none⟩ = some (.slice A1 0 c1)) ∧ RdK spanTy w' A1 0 [] ∧ (0 ≤ c1 ∧ c1 ≤ maxLen) ∧ ∀ a, A1 = some a → a.block < w'.heap.size) := h_ (fun w' hc => F1x.out w' ((D3.out).trans hc))
 clear F1x
 have a01 := F3.out w4 (Chg.refl [] w4)
 have LR := edlearn_any w4 3 A3 c3 [(1, 1, 1)] 2 1 a01.2.1 a01.2.2.1 a01.2.2.2 (by simp)
 rw [k_learn2] at LR
 have LRH := h_ LR
 obtain ⟨⟨a0, a1⟩, -⟩ := a01
 clear LR; go_wp2_with fail
 refine LRH.out.mono ?_
 rintro r w5 ⟨A5, c5, rfl, ho, hA, hc⟩
 clear LRH; clear a0 a1
 obtain ⟨w6, hw, hcn, hb⟩ := news1 w5 (.cells #[.int .i64 3, .slice A5 2 c5] 25)
 have WN := h_ hw
 have D5 := h_ (hc.trans hcn)
 have B5 := h_ hb
 have R5 : Hid (RdK spanTy w6 A5 2 [(1, 1, 1), (2, 1, 1)] ∧ (2 ≤ c5 ∧ c5 ≤ maxLen) ∧ ∀ a, A5 = some a → a.block < w6.heap.size) := h_ ⟨(ho.chg hcn (by simp)).reads, ho.cap, fun a ha => Nat.lt_of_lt_of_le (ho.lt_ a ha) hcn.size⟩
 clear hw hcn hb ho hA hc
 go_upto_region 4 with fail
 rw [← WN.out]
 generalize w5.heap.size = g5 at *
 clear WN
 have F5 : Hid (∀ w', Chg [] w6 w' → (w'.cell? ⟨g5, 0, none⟩ = some (.int .i64 3) ∧ w'.cell? ⟨g5, 1, none⟩ = some (.slice A5 2 c5)) ∧ RdK spanTy w' A5 2 [(1, 1, 1), (2, 1, 1)] ∧ (2 ≤ c5 ∧ c5 ≤ maxLen) ∧ ∀ a, A5 = some a → a.block < w'.heap.size) := h_ (fun w' hc => ⟨⟨cell_of (hc.at_ B5.out (by simp)) 0, cell_of (hc.at_ B5.out (by simp)) 1⟩, R5.out.1.chg hc (by simp), R5.out.2.1, fun a ha => Nat.lt_of_lt_of_le (R5.out.2.2 a ha) hc.size⟩)
 clear B5 R5
 have F1x := F1
 clear F1
 have F1 : Hid (∀ w', Chg [] w6 w' → (w'.cell? ⟨g1, 0, none⟩ = some (.int .i64 3) ∧ w'.cell? ⟨g1, 1, none⟩ = some (.slice A1 0 c1)) ∧ RdK spanTy w' A1 0 [] ∧ (0 ≤ c1 ∧ c1 ≤ maxLen) ∧ ∀ a, A1 = some a → a.block < w'.heap.size) := h_ (fun w' hc => F1x.out w' ((D5.out).trans hc))
 clear F1x
 have F3x := F3
 clear F3
 have F3 : Hid (∀ w', Chg [] w6 w' → (w'.cell? ⟨g3, 0, none⟩ = some (.int .i64 3) ∧ w'.cell? ⟨g3, 1, none⟩ = some (.slice A3 1 c3)) ∧ RdK spanTy w' A3 1 [(1, 1, 1)] ∧ (1 ≤ c3 ∧ c3 ≤ maxLen) ∧ ∀ a, A3 = some a → a.block < w'.heap.size) := h_ (fun w' hc => F3x.out w' ((D5.out).trans hc))
 clear F3x
 have D := h_ (D1.out.trans (D3.out.trans D5.out))
 clear D1 D3 D5
 refine wp_region_held_drew (S := fun w' => Chg [] w6 w') (by kernel_rfl) (Chg.refl [] w6).drew (fun hHeld => ?_)
 have C := h_ hHeld
 obtain ⟨wc, hwc⟩ : ∃ q, w6.drew = q := ⟨_, rfl⟩
 rw [hwc] at C ⊢
 clear hwc hHeld
 have hHeld := C.out
 refine sy 0 23 rfl rfl ?_; try simp only [Act.put, sA, s0, s1]
 refine sy 1 24 rfl rfl ?_; try simp only [Act.put, sA, s0, s1]
 refine sy 2 25 rfl rfl ?_; try simp only [Act.put, sA, s0, s1]
 refine sy 3 26 rfl rfl ?_; try simp only [Act.put, sA, s0, s1]
 refine sy 4 27 rfl rfl ?_; try simp only [Act.put, sA, s0, s1]
 refine sy 5 28 rfl rfl ?_; try simp only [Act.put, sA, s0, s1]
 refine sy 6 29 rfl rfl ?_; try simp only [Act.put, sA, s0, s1]
 refine sy 7 30 rfl rfl ?_; try simp only [Act.put, sA, s0, s1]
 refine sy 8 31 rfl rfl ?_; try simp only [Act.put, sA, s0, s1]
 refine sy 9 32 rfl rfl ?_; try simp only [Act.put, sA, s0, s1]
 refine sy 10 33 rfl rfl ?_; try simp only [Act.put, sA, s0, s1]
 refine sy 12 35 rfl rfl ?_ (hy := by (intro w hSw; (try dsimp only at hSw); obtain ⟨⟨q0, q1⟩, -⟩ := F1.out _ hSw; go_simp; try with_reducible rfl))
 try simp only [Act.put, sA, s0, s1]
 refine on1 11 rfl (fun K hK => ?_)
 go_simp
 refine (l20two_any wc).mono ?_
 rintro r wc ⟨gt, rfl, hr, hl, hc⟩
 have RT := h_ hr
 have LT := h_ hl
 replace C := h_ (C.out.trans hc)
 clear hr hl hc
 refine hK.out _ _ C.out (fun hHeld => ?_)
 clear hK K; try simp only [Act.put, sA, s0, s1]
 refine on1 13 rfl (fun K hK => ?_)
 have PL : Calls Tryz.prog 9 #[.slice (some ⟨gt, 0, none⟩) 2 2, .agg #[.int .i64 3, .slice A1 0 c1]] wc fun r w' => ∃ (A' : Option Addr) (c' : Nat) (zs : List EvT), r = .returned (.slice A' zs.length c') ∧ EsF w' wc.heap.size w'.heap.size A' c' zs [gE, fE] ∧ Chg [] wc w' := by
  have q := edplan_any wc (some ⟨gt, 0, none⟩) 2 [fT, gT] [fE, gE] 3 A1 c1 [] RT.out (by simp) (.inr (fun a ha => by cases ha; exact LT.out)) (fgR wc) (by simp) fg_sm (F1.out wc (C.out)).2.1 (by simp)
  rw [k_plan0] at q
  exact q
 have PLH := h_ PL
 clear PL; go_simp
 refine PLH.out.mono ?_
 rintro r wc ⟨Az, cz, zs, rfl, he, hc⟩
 have RZ := h_ he.row.reads
 have EZ := h_ he.all.ev
 replace C := h_ (C.out.trans hc)
 clear he hc PLH RT LT
 refine hK.out _ _ C.out (fun hHeld => ?_)
 clear hK K; try simp only [Act.put, sA, s0, s1]
 refine on1 14 rfl (fun K hK => ?_)
 go_simp
 refine (l20one_any wc 1 ⟨#[103]⟩).mono ?_
 rintro r wc ⟨rfl, hc⟩
 try replace RZ := h_ (RZ.out.chg hc (by simp))
 try replace EZ := h_ (EZ.out.chg hc)
 replace C := h_ (C.out.trans hc)
 clear hc
 refine hK.out _ _ C.out (fun hHeld => ?_)
 clear hK K; try simp only [Act.put, sA, s0, s1]
 refine on1 15 rfl (fun K hK => ?_)
 go_simp
 refine (l20one_any wc 2 ⟨#[102]⟩).mono ?_
 rintro r wc ⟨rfl, hc⟩
 try replace RZ := h_ (RZ.out.chg hc (by simp))
 try replace EZ := h_ (EZ.out.chg hc)
 replace C := h_ (C.out.trans hc)
 clear hc
 refine hK.out _ _ C.out (fun hHeld => ?_)
 clear hK K; try simp only [Act.put, sA, s0, s1]
 refine on1 16 rfl (fun K hK => ?_)
 go_simp
 obtain ⟨px, hp⟩ : ∃ p, wc.heap.size = p := ⟨_, rfl⟩
 obtain ⟨wc, hw, hcn, hb⟩ := news1 wc (.cells #[.int .i64 1, .int .i64 1, .string ⟨#[103]⟩, .int .i64 1, .int .i64 0, .slice none 0 0, .slice none 0 0, .int .i64 2, .int .i64 1, .string ⟨#[102]⟩, .int .i64 1, .int .i64 0, .slice none 0 0, .slice none 0 0] 40)
 rw [← hw, hp]
 rw [hp] at hb
 have RX : Hid (RdK evTy wc (some ⟨px, 0, none⟩) 2 [gT, fT]) := h_ (rd_twoE (x := gT) (y := fT) hb)
 replace RZ := h_ (RZ.out.chg hcn (by simp))
 replace EZ := h_ (EZ.out.chg hcn)
 replace C := h_ (C.out.trans hcn)
 clear hw hcn hb hp
 refine hK.out _ _ C.out (fun hHeld => ?_)
 clear hK K; try simp only [Act.put, sA, s0, s1]
 refine on1 17 rfl (fun K hK => ?_)
 have SI := h_ (l20is_any wc Az (some ⟨px, 0, none⟩) cz 2 zs.length 2 zs [gT, fT] [gE, fE] RZ.out RX.out EZ.out (gfR wc) (by have a := EZ.out.1; simp at a; omega) (fun e he => by have := (fg_sm e (by simp at he ⊢; first | exact he | exact he.symm | exact .inl he)).2; omega))
 go_simp
 refine SI.out.mono ?_
 rintro r wc ⟨rfl, hc⟩
 replace C := h_ (C.out.trans hc)
 clear hc SI RZ EZ RX
 refine hK.out _ _ C.out (fun hHeld => ?_)
 clear hK K; try simp only [Act.put, sA, s0, s1]
 refine sy 18 41 rfl rfl ?_; try simp only [Act.put, sA, s0, s1]
 refine sy 19 42 rfl rfl ?_; try simp only [Act.put, sA, s0, s1]
 refine sy 21 44 rfl rfl ?_ (hy := by (intro w hSw; (try dsimp only at hSw); obtain ⟨⟨q0, q1⟩, -⟩ := F3.out _ hSw; go_simp; try with_reducible rfl))
 try simp only [Act.put, sA, s0, s1]
 refine on1 20 rfl (fun K hK => ?_)
 go_simp
 refine (l20two_any wc).mono ?_
 rintro r wc ⟨gt, rfl, hr, hl, hc⟩
 have RT := h_ hr
 have LT := h_ hl
 replace C := h_ (C.out.trans hc)
 clear hr hl hc
 refine hK.out _ _ C.out (fun hHeld => ?_)
 clear hK K; try simp only [Act.put, sA, s0, s1]
 refine on1 22 rfl (fun K hK => ?_)
 have PL : Calls Tryz.prog 9 #[.slice (some ⟨gt, 0, none⟩) 2 2, .agg #[.int .i64 3, .slice A3 1 c3]] wc fun r w' => ∃ (A' : Option Addr) (c' : Nat) (zs : List EvT), r = .returned (.slice A' zs.length c') ∧ EsF w' wc.heap.size w'.heap.size A' c' zs [fE] ∧ Chg [] wc w' := by
  have q := edplan_any wc (some ⟨gt, 0, none⟩) 2 [fT, gT] [fE, gE] 3 A3 c3 [(1, 1, 1)] RT.out (by simp) (.inr (fun a ha => by cases ha; exact LT.out)) (fgR wc) (by simp) fg_sm (F3.out wc (C.out)).2.1 (by simp)
  rw [k_plan1] at q
  exact q
 have PLH := h_ PL
 clear PL; go_simp
 refine PLH.out.mono ?_
 rintro r wc ⟨Az, cz, zs, rfl, he, hc⟩
 have RZ := h_ he.row.reads
 have EZ := h_ he.all.ev
 replace C := h_ (C.out.trans hc)
 clear he hc PLH RT LT
 refine hK.out _ _ C.out (fun hHeld => ?_)
 clear hK K; try simp only [Act.put, sA, s0, s1]
 refine on1 23 rfl (fun K hK => ?_)
 go_simp
 refine (l20one_any wc 2 ⟨#[102]⟩).mono ?_
 rintro r wc ⟨rfl, hc⟩
 try replace RZ := h_ (RZ.out.chg hc (by simp))
 try replace EZ := h_ (EZ.out.chg hc)
 replace C := h_ (C.out.trans hc)
 clear hc
 refine hK.out _ _ C.out (fun hHeld => ?_)
 clear hK K; try simp only [Act.put, sA, s0, s1]
 refine on1 24 rfl (fun K hK => ?_)
 go_simp
 obtain ⟨px, hp⟩ : ∃ p, wc.heap.size = p := ⟨_, rfl⟩
 obtain ⟨wc, hw, hcn, hb⟩ := news1 wc (.cells #[.int .i64 2, .int .i64 1, .string ⟨#[102]⟩, .int .i64 1, .int .i64 0, .slice none 0 0, .slice none 0 0] 40)
 rw [← hw, hp]
 rw [hp] at hb
 have RX : Hid (RdK evTy wc (some ⟨px, 0, none⟩) 1 [fT]) := h_ (rd_oneEc (X := fT) hb)
 replace RZ := h_ (RZ.out.chg hcn (by simp))
 replace EZ := h_ (EZ.out.chg hcn)
 replace C := h_ (C.out.trans hcn)
 clear hw hcn hb hp
 refine hK.out _ _ C.out (fun hHeld => ?_)
 clear hK K; try simp only [Act.put, sA, s0, s1]
 refine on1 25 rfl (fun K hK => ?_)
 have SI := h_ (l20is_any wc Az (some ⟨px, 0, none⟩) cz 1 zs.length 1 zs [fT] [fE] RZ.out RX.out EZ.out (fsR wc) (by have a := EZ.out.1; simp at a; omega) (fun e he => by have := (fg_sm e (by simp at he ⊢; first | exact he | exact he.symm | exact .inl he)).2; omega))
 go_simp
 refine SI.out.mono ?_
 rintro r wc ⟨rfl, hc⟩
 replace C := h_ (C.out.trans hc)
 clear hc SI RZ EZ RX
 refine hK.out _ _ C.out (fun hHeld => ?_)
 clear hK K; try simp only [Act.put, sA, s0, s1]
 refine sy 26 49 rfl rfl ?_; try simp only [Act.put, sA, s0, s1]
 refine sy 27 50 rfl rfl ?_; try simp only [Act.put, sA, s0, s1]
 refine sy 29 52 rfl rfl ?_ (hy := by (intro w hSw; (try dsimp only at hSw); obtain ⟨⟨q0, q1⟩, -⟩ := F5.out _ hSw; go_simp; try with_reducible rfl))
 try simp only [Act.put, sA, s0, s1]
 refine on1 28 rfl (fun K hK => ?_)
 go_simp
 refine (l20two_any wc).mono ?_
 rintro r wc ⟨gt, rfl, hr, hl, hc⟩
 have RT := h_ hr
 have LT := h_ hl
 replace C := h_ (C.out.trans hc)
 clear hr hl hc
 refine hK.out _ _ C.out (fun hHeld => ?_)
 clear hK K; try simp only [Act.put, sA, s0, s1]
 refine on1 30 rfl (fun K hK => ?_)
 have PL : Calls Tryz.prog 17 #[.slice (some ⟨gt, 0, none⟩) 2 2, .agg #[.int .i64 3, .slice A5 2 c5]] wc fun r w' => r = .returned (.bool true) ∧ Chg [] wc w' := by
  have q := edagreed_any wc (some ⟨gt, 0, none⟩) 2 [fT, gT] [fE, gE] 3 A5 c5 [(1, 1, 1), (2, 1, 1)] RT.out (by simp) (.inr (fun a ha => by cases ha; exact LT.out)) (fgR wc) (by simp) fg_sm (F5.out wc (C.out)).2.1 (by simp)
  rw [k_ag2] at q
  exact q
 have PLH := h_ PL
 clear PL; go_simp
 refine PLH.out.mono ?_
 rintro r wc ⟨rfl, hc⟩
 replace C := h_ (C.out.trans hc)
 clear hc PLH RT LT
 refine hK.out _ _ C.out (fun hHeld => ?_)
 clear hK K; try simp only [Act.put, sA, s0, s1]
 refine sy 31 54 rfl rfl ?_; try simp only [Act.put, sA, s0, s1]
 refine sy 32 55 rfl rfl ?_; try simp only [Act.put, sA, s0, s1]
 refine sy 34 57 rfl rfl ?_ (hy := by (intro w hSw; (try dsimp only at hSw); obtain ⟨⟨q0, q1⟩, -⟩ := F3.out _ hSw; go_simp; try with_reducible rfl))
 try simp only [Act.put, sA, s0, s1]
 refine on1 33 rfl (fun K hK => ?_)
 go_simp
 refine (l20two_any wc).mono ?_
 rintro r wc ⟨gt, rfl, hr, hl, hc⟩
 have RT := h_ hr
 have LT := h_ hl
 replace C := h_ (C.out.trans hc)
 clear hr hl hc
 refine hK.out _ _ C.out (fun hHeld => ?_)
 clear hK K; try simp only [Act.put, sA, s0, s1]
 refine on1 35 rfl (fun K hK => ?_)
 have PL : Calls Tryz.prog 17 #[.slice (some ⟨gt, 0, none⟩) 2 2, .agg #[.int .i64 3, .slice A3 1 c3]] wc fun r w' => r = .returned (.bool false) ∧ Chg [] wc w' := by
  have q := edagreed_any wc (some ⟨gt, 0, none⟩) 2 [fT, gT] [fE, gE] 3 A3 c3 [(1, 1, 1)] RT.out (by simp) (.inr (fun a ha => by cases ha; exact LT.out)) (fgR wc) (by simp) fg_sm (F3.out wc (C.out)).2.1 (by simp)
  rw [k_ag1] at q
  exact q
 have PLH := h_ PL
 clear PL; go_simp
 refine PLH.out.mono ?_
 rintro r wc ⟨rfl, hc⟩
 replace C := h_ (C.out.trans hc)
 clear hc PLH RT LT
 refine hK.out _ _ C.out (fun hHeld => ?_)
 clear hK K; try simp only [Act.put, sA, s0, s1]
 refine sy 36 59 rfl rfl ?_; try simp only [Act.put, sA, s0, s1]
 refine sy 37 60 rfl rfl ?_; try simp only [Act.put, sA, s0, s1]
 refine sy 38 0 rfl rfl ?_; try simp only [Act.put, sA, s0, s1]
 refine wpAnyH_done (by kernel_rfl) ?_ _
 have E := h_ (D.out.trans C.out)
 clear hHeld; go_wp2; go_ret
 first | exact ⟨rfl, E.out⟩ | exact E.out
end
end Go.Proofs.YtehmchdhlhchjaaGreatDoor
