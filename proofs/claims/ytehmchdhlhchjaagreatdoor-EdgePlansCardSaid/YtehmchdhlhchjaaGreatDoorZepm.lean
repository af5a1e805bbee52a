/- The document's without. Sets of dots as lists of spans: how many dots they have, what is the last one, what is joined, left, within. Plain. What is joined of spans in order: purely. event.Ahead. Which past events make, and whether they are closed: purely. A writer, a reader that were made since a world w, and all that was there is as it was: the calls in this form. Package effect: compare, Same, Less, Size, Bytes. Package effect: Read. The statements' own functions over effects: SameEffect, LongEffect, of, file, awake. The kit's LongEvents. Events in order, by their dots: purely. -/
import Derived.Test.YtehmchdhlhchjaaGreatDoorZepl
import Derived.Deep.Cut
import Derived.Test.YtehmchdhlhchjaaGreatDoorZepk
import Derived.Test.YtehmchdhlhchjaaGreatDoorZepd
import Derived.Test.YtehmchdhlhchjaaGreatDoorZepj
import Derived.Test.YtehmchdhlhchjaaGreatDoorZepb
import Derived.Test.YtehmchdhlhchjaaGreatDoorZepc
import Derived.Deep.RegionHeld3
import Derived.Deep.CutRange
import Derived.Test.YtehmchdhlhchjaaGreatDoorZepa
set_option linter.unusedSimpArgs false
set_option linter.unusedVariables false
set_option maxHeartbeats 32000000
namespace Go.Proofs.YtehmchdhlhchjaaGreatDoor
section
open Go.RowKit Go.Lib


def aheadP (a b : EvP) : Bool := hasE b.q a.n a.s && decide (chkEv a = 0) && decide (chkEv b = 0)
theorem hasx_any (w : World) (x y : EvT) (e f : EvP) (hx : EvR w x e) (hy : EvR w y f) (hs : EvSm f) :
  Calls Tryz.prog 72 #[.slice y.B y.bl y.bc, .agg #[.int .i64 x.n, .int .i64 x.s]] w fun r w' => r = .returned (.bool (hasE f.q e.n e.s)) ∧ Chg [] w w' := by
 have h1 := hx.n
 have h2 := hx.s
 have h3 := hy.bl
 have h4 := hy.B
 rw [h3] at h4 ⊢
 rw [h1, h2]
 exact has_any w y.B y.bc f.q e.n e.s h4 hs.2.2

set_option maxRecDepth 100000 in
theorem evahead_any (w : World) (x y : EvT) (e f : EvP) (hx : EvR w x e) (hy : EvR w y f) (hs : EvSm e) (ht : EvSm f) :
  Calls Tryz.prog 162 #[.agg #[.int .i64 x.n, .int .i64 x.s, .string x.p, .int .i64 x.k, .int .i64 x.m, .slice x.A x.l x.c, .slice x.B x.bl x.bc], .agg #[.int .i64 y.n, .int .i64 y.s, .string y.p, .int .i64 y.k, .int .i64 y.m, .slice y.A y.l y.c, .slice y.B y.bl y.bc]] w fun r w' => r = .returned (.bool (aheadP e f)) ∧ Chg [] w w' := by
 obtain ⟨w2, hw, hc, b0, b1⟩ := news2 w (.cells #[.int .i64 x.n, .int .i64 x.s, .string x.p, .int .i64 x.k, .int .i64 x.m, .slice x.A x.l x.c, .slice x.B x.bl x.bc] 40) (.cells #[.int .i64 y.n, .int .i64 y.s, .string y.p, .int .i64 y.k, .int .i64 y.m, .slice y.A y.l y.c, .slice y.B y.bl y.bc] 40)
 have W2 := h_ hw
 have C := h_ hc
 have HX := h_ (hx.chg hc)
 have HY := h_ (hy.chg hc)
 have HS := h_ hs
 have HT := h_ ht
 have B0 := h_ b0
 have B1 := h_ b1
 generalize hv : aheadP e f = v
 have HV := h_ hv
 clear hv hw hc hx hy hs ht b0 b1
 go_enter Tryz.func162, Tryz.ntmps162
 go_upto_region 1 with fail
 rw [← W2.out]
 generalize w.heap.size + 1 = g1 at *
 generalize w.heap.size = g0 at *
 obtain ⟨z0, z1, z2, z3, z4, z5, z6⟩ := ce7 B0.out
 obtain ⟨y0, y1, y2, y3, y4, y5, y6⟩ := ce7 B1.out
 go_wp2_with fail
 refine (hasx_any w2 x y e f HX.out HY.out HT.out).mono ?_
 rintro r w3 ⟨rfl, hc⟩
 clear z0 y0 z1 y1 z2 y2 z3 y3 z4 y4 z5 y5 z6 y6
 replace C := h_ (C.out.trans hc)
 replace HX := h_ (HX.out.chg hc)
 replace HY := h_ (HY.out.chg hc)
 replace B0 := h_ (hc.at_ B0.out (by simp))
 replace B1 := h_ (hc.at_ B1.out (by simp))
 clear hc
 rcases hh : hasE f.q e.n e.s with _ | _
 ·
  obtain rfl : v = false := by rw [← HV.out]; unfold aheadP; rw [hh]; rfl
  go_wp2; go_ret
  exact ⟨rfl, C.out⟩
 obtain ⟨z0, z1, z2, z3, z4, z5, z6⟩ := ce7 B0.out
 obtain ⟨y0, y1, y2, y3, y4, y5, y6⟩ := ce7 B1.out
 go_wp2_with fail
 refine (evcheck_any w3 x e HX.out HS.out).mono ?_
 rintro r w4 ⟨rfl, hc⟩
 clear z0 y0 z1 y1 z2 y2 z3 y3 z4 y4 z5 y5 z6 y6
 replace C := h_ (C.out.trans hc)
 replace HX := h_ (HX.out.chg hc)
 replace HY := h_ (HY.out.chg hc)
 replace B0 := h_ (hc.at_ B0.out (by simp))
 replace B1 := h_ (hc.at_ B1.out (by simp))
 clear hc
 rcases chkEv_two e with ha | ha
 rotate_left
 ·
  obtain rfl : v = false := by rw [← HV.out]; unfold aheadP; rw [ha]; simp
  rw [ha]
  go_wp2; go_ret
  exact ⟨rfl, C.out⟩
 rw [ha]
 obtain ⟨z0, z1, z2, z3, z4, z5, z6⟩ := ce7 B0.out
 obtain ⟨y0, y1, y2, y3, y4, y5, y6⟩ := ce7 B1.out
 go_wp2_with fail
 refine (evcheck_any w4 y f HY.out HT.out).mono ?_
 rintro r w5 ⟨rfl, hc⟩
 clear z0 y0 z1 y1 z2 y2 z3 y3 z4 y4 z5 y5 z6 y6
 replace C := h_ (C.out.trans hc)
 replace HX := h_ (HX.out.chg hc)
 replace HY := h_ (HY.out.chg hc)
 replace B0 := h_ (hc.at_ B0.out (by simp))
 replace B1 := h_ (hc.at_ B1.out (by simp))
 clear hc
 rcases chkEv_two f with hb | hb
 rotate_left
 ·
  obtain rfl : v = false := by rw [← HV.out]; unfold aheadP; rw [hb]; simp
  rw [hb]
  go_wp2; go_ret
  exact ⟨rfl, C.out⟩
 rw [hb]
 obtain rfl : v = true := by rw [← HV.out]; unfold aheadP; rw [hh, ha, hb]; rfl
 go_wp2; go_ret
 exact ⟨rfl, C.out⟩
end
section
open Go.RowKit Go.Lib

theorem perm_zip {α β : Type} {m xs : List α} (h : m.Perm xs) : ∀ es : List β, es.length = xs.length → ∃ es' : List β, es'.length = m.length ∧ (m.zip es').Perm (xs.zip es) := by
 induction h with
 | nil => intro es _; exact ⟨[], rfl, by simp⟩
 | cons x h ih =>
  intro es he
  match es, he with
  | e :: es, he =>
   obtain ⟨f, hf, hp⟩ := ih es (by simpa using he)
   exact ⟨e :: f, by simp [hf], by simpa using hp.cons (x, e)⟩
 | swap x y l =>
  intro es he
  match es, he with
  | a :: b :: es, he => exact ⟨b :: a :: es, by simp at he ⊢; omega, by simpa using List.Perm.swap (x, a) (y, b) (l.zip es)⟩
 | trans h1 h2 i1 i2 =>
  intro es he
  obtain ⟨f, hf, hp⟩ := i2 es he
  obtain ⟨g, hg, hq⟩ := i1 f hf
  exact ⟨g, hg, hq.trans hp⟩
end
section
open Go.RowKit

theorem longeff_any (w : World) (k m : Int) (A : Option Addr) (n c : Nat) (_hn : n ≤ 140737488351232) :
  Calls Tryz.prog 26 #[.agg #[.int .i64 k, .int .i64 m, .slice A n c]] w fun e w' => e = .returned (.bool (decide ((1200 : Int) < n))) ∧ Chg [] w w' := by
 go_enter Tryz.func26, Tryz.ntmps26
 go_wp2; go_ret
 exact ⟨rfl, (Chg.refl _ _).alloc _⟩
end
section
open Go.RowKit Go.Lib


def bigE (x : EvT) : Prop := 100 < x.p.size ∨ 1200 < x.l ∨ 100 < x.bl
instance (x : EvT) : Decidable (bigE x) := by unfold bigE; exact inferInstance
def longE (xs : List EvT) (most : Nat) : Bool := (xs.take (most + 1)).any (fun x => decide (bigE x)) || decide (most < xs.length)
theorem longE_no {xs : List EvT} {most : Nat} (h : longE xs most = false) : xs.length ≤ most ∧ ∀ x ∈ xs, ¬ bigE x := by
 unfold longE at h
 rw [Bool.or_eq_false_iff, decide_eq_false_iff_not, List.any_eq_false] at h
 refine ⟨by omega, fun x hx => ?_⟩
 have := h.1 x (by rw [List.take_of_length_le (by omega)]; exact hx)
 simpa using this
theorem longE_yes {xs : List EvT} {most k : Nat} {x : EvT} (hx : xs[k]? = some x) (hk : k ≤ most) (hb : bigE x) : longE xs most = true := by
 unfold longE
 rw [Bool.or_eq_true, List.any_eq_true]
 refine .inl ⟨x, ?_, decide_eq_true hb⟩
 have hl := (List.getElem?_eq_some_iff.1 hx).1
 exact List.mem_of_getElem? (i := k) (by rw [List.getElem?_take, if_pos (by omega)]; exact hx)
set_option maxRecDepth 100000 in
theorem longevs_any (w : World) (A : Option Addr) (c : Nat) (xs : List EvT) (most : Nat) (h : RdK evTy w A xs.length xs) (hn : xs.length ≤ 140737488351232) (hm : most ≤ 1000) (hs : ∀ x ∈ xs, x.l ≤ 140737488351232) :
  Calls Tryz.prog 5 #[.slice A xs.length c, .int .i64 (most : Int)] w fun r w' => r = .returned (.bool (longE xs most)) ∧ Chg [] w w' := by
 have H := h_ h
 have HN := h_ hn
 have HM := h_ hm
 have HS := h_ hs
 clear h hn hm hs
 generalize hv : longE xs most = v
 have HV := h_ hv
 clear hv
 go_enter Tryz.func5, Tryz.ntmps5
 go_wp2
 go_loopw [5] (fun v5 wr => ∃ k : Nat, k ≤ xs.length ∧ k ≤ most + 1 ∧ v5 = .int .i64 k ∧ Hid (∀ x ∈ xs.take k, ¬ bigE x) ∧ Hid (Chg [] w wr)) (fun v5 _ => xs.length - (RowKit.intOf v5).toNat)
 case atStart => exact ⟨0, Nat.zero_le _, Nat.zero_le _, rfl, h_ (by simp), Chg.refl _ _⟩
 case round =>
  obtain ⟨k, hk, hk2, rfl, NB, RC⟩ := hrel
  have i0 : (0 : Int) ≤ (k : Int) := by omega
  by_cases hlt : k < xs.length
  ·
   have i1 : (k : Int) < (xs.length : Int) := by omega
   by_cases hle : k ≤ most
   ·
    have i2 : (k : Int) ≤ (most : Int) := by omega
    have i3 : IntKind.i64.wrap ((k : Int) + 1) = (k : Int) + 1 := IntWalk.i64_in _ (by have := HN.out; omega)
    obtain ⟨x, hx⟩ : ∃ x, xs[k]? = some x := ⟨_, List.getElem?_eq_getElem hlt⟩
    obtain ⟨g, o, eA, _⟩ := H.out.line (by omega)
    subst eA
    obtain ⟨z0, z1, z2, z3, z4, z5, z6⟩ := evCells (H.out.chg RC.out (by simp)) hx
    have LY : Hid (bigE x → v = true) := h_ (fun q => by rw [← HV.out]; exact longE_yes hx hle q)
    have NX : Hid (¬ bigE x → ∀ y ∈ xs.take (k + 1), ¬ bigE y) := h_ (fun q y hy => by
     rw [List.take_add_one, hx] at hy
     rcases List.mem_append.1 hy with r | r
     ·
      exact NB.out y r
     ·
      simp at r; subst r; exact q)
    have XS := h_ (HS.out x (List.mem_of_getElem? hx))
    clear hx
    by_cases b1 : 100 < x.p.size
    ·
     have j1 : (100 : Int) < (x.p.size : Int) := by omega
     obtain rfl := LY.out (.inl b1)
     clear LY NX b1; go_wp2; go_ret
     exact ⟨rfl, RC.out⟩
    have j1 : ¬ (100 : Int) < (x.p.size : Int) := by omega
    go_wp2_with fail
    refine (longeff_any wr x.k x.m x.A x.l x.c XS.out).mono ?_
    rintro r w2 ⟨rfl, hc⟩
    have C2 := h_ (RC.out.trans hc)
    have y6 := hc.cell z6 (by simp)
    clear hc z0 z1 z2 z3 z4 z5 z6 j1
    by_cases b2 : 1200 < x.l
    ·
     rw [decide_eq_true (show (1200 : Int) < (x.l : Int) by omega)]
     obtain rfl := LY.out (.inr (.inl b2))
     clear LY NX b1 b2 y6; go_wp2; go_ret
     exact ⟨rfl, C2.out⟩
    rw [decide_eq_false (show ¬ (1200 : Int) < (x.l : Int) by omega)]
    by_cases b3 : 100 < x.bl
    ·
     have j3 : (100 : Int) < (x.bl : Int) := by omega
     obtain rfl := LY.out (.inr (.inr b3))
     clear LY NX b1 b2 b3; go_wp2; go_ret
     exact ⟨rfl, C2.out⟩
    have j3 : ¬ (100 : Int) < (x.bl : Int) := by omega
    have NN := h_ (NX.out (fun q => by unfold bigE at q; omega))
    clear LY NX b1 b2 b3; go_wp2; go_round
    case rel => exact ⟨k + 1, by omega, by omega, by go_num, NN, C2.out⟩
    case measure => simp [RowKit.intOf]; omega
   ·
    have i2 : ¬ (k : Int) ≤ (most : Int) := by omega
    have i4 : (most : Int) < (xs.length : Int) := by omega
    obtain rfl : v = true := by rw [← HV.out]; unfold longE; rw [decide_eq_true (show most < xs.length by omega)]; simp
    clear HV; go_wp2; go_ret
    exact ⟨rfl, RC.out⟩
  ·
   obtain rfl : k = xs.length := by omega
   have i1 : ¬ (xs.length : Int) < (xs.length : Int) := by omega
   by_cases hle : most < xs.length
   ·
    have i4 : (most : Int) < (xs.length : Int) := by omega
    obtain rfl : v = true := by rw [← HV.out]; unfold longE; rw [decide_eq_true hle]; simp
    clear HV; go_wp2; go_ret
    exact ⟨rfl, RC.out⟩
   ·
    have i4 : ¬ (most : Int) < (xs.length : Int) := by omega
    obtain rfl : v = false := by
     rw [← HV.out]
     unfold longE
     rw [decide_eq_false hle, Bool.or_false, List.any_eq_false]
     intro x hx
     have q := NB.out x (by rw [List.take_length]; exact List.mem_of_mem_take hx)
     simpa using q
    clear HV; go_wp2; go_ret
    exact ⟨rfl, RC.out⟩
end
end Go.Proofs.YtehmchdhlhchjaaGreatDoor
