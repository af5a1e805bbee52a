/- The document's without. Sets of dots as lists of spans: how many dots they have, what is the last one, what is joined, left, within. Plain. What is joined of spans in order: purely. event.Ahead. Which past events make, and whether they are closed: purely. A writer, a reader that were made since a world w, and all that was there is as it was: the calls in this form. Package effect: compare, Same, Less, Size, Bytes. Package effect: Read. The statements' own functions over effects: SameEffect, LongEffect, of, file, awake. The kit's LongEvents. A row of nil has no elements. A row that the library has sorted, or cleared from some place on. slices.SortFunc at structs under a 'cmp' that need not part any two: what was there, in order. -/
import Derived.Test.YtomgjogkkoigbaaGreatDoorZspl
import Derived.Deep.Cut
import Derived.Test.YtomgjogkkoigbaaGreatDoorZspk
import Derived.Test.YtomgjogkkoigbaaGreatDoorZspd
import Derived.Test.YtomgjogkkoigbaaGreatDoorZspj
import Derived.Test.YtomgjogkkoigbaaGreatDoorZspb
import Derived.Test.YtomgjogkkoigbaaGreatDoorZspc
import Derived.Deep.RegionHeld3
import Derived.Deep.CutRange
import Derived.Test.YtomgjogkkoigbaaGreatDoorZspa
import Derived.Shelf.SlSortCmp.NoneTotal
import Derived.Lib.SlicesCompact
import Derived.Lib.SliceRun
import Derived.Test.YtomgjogkkoigbaaGreatDoorZspi
set_option linter.unusedSimpArgs false
set_option linter.unusedVariables false
namespace Go.Proofs.YtomgjogkkoigbaaGreatDoor
section

theorem lastM_from (node : Int) : ∀ (xs : List Sp) (k : Int), k ≤ xs.foldl (fun n x => if x.1 = node then max n x.2.2 else n) k ∧ ∀ x ∈ xs, x.1 = node → x.2.2 ≤ xs.foldl (fun n x => if x.1 = node then max n x.2.2 else n) k
 | [], k => ⟨Int.le_refl _, by simp⟩
 | x :: xs, k => by
  obtain ⟨h1, h2⟩ := lastM_from node xs (if x.1 = node then max k x.2.2 else k)
  rw [List.foldl_cons]
  by_cases q : x.1 = node
  ·
   rw [if_pos q] at h1 h2 ⊢
   refine ⟨by omega, fun y hy e => ?_⟩
   rcases List.mem_cons.1 hy with rfl | hy
   ·
    omega
   ·
    exact h2 y hy e
  ·
   rw [if_neg q] at h1 h2 ⊢
   refine ⟨by omega, fun y hy e => ?_⟩
   rcases List.mem_cons.1 hy with rfl | hy
   ·
    exact absurd e q
   ·
    exact h2 y hy e
theorem last_ge {xs : List Sp} (h : WfC xs) {n s : Int} (hm : Mem xs n s) : s ≤ lastL n xs := by
 rw [← last_all n h]
 obtain ⟨x, hx, e, _, l⟩ := hm
 exact Int.le_trans l ((lastM_from n xs 0).2 x hx e)
theorem bound_le {l : List Sp} (h : l.length ≤ 4000) : boundP l = (0, l) := by unfold boundP; rw [if_neg (by omega)]
theorem has_iff {xs : List Sp} (h : chkS xs = 0) (n s : Int) : hasE xs n s = decide (Mem xs n s) := by
 unfold hasE
 rw [decide_eq_true h, Bool.true_and]
def aloneP (d : Int × Int) : Sp := (d.1, d.2, d.2)
def fineL (l : List (Int × Int)) : Bool := l.all (fun d => decide (FineQ d.1 d.2))
theorem fineL_iff {l : List (Int × Int)} : fineL l = true ↔ ∀ d ∈ l, FineQ d.1 d.2 := by
 unfold fineL
 rw [List.all_eq_true]
 exact ⟨fun h d hd => of_decide_eq_true (h d hd), fun h d hd => decide_eq_true (h d hd)⟩
def ofE (l : List (Int × Int)) : Int × List Sp := if fineL l = true then boundP (tidyS (l.map aloneP)) else (2, [])
theorem alone_mem {l : List (Int × Int)} {n s : Int} : Mem (l.map aloneP) n s ↔ (n, s) ∈ l := by
 unfold Mem
 constructor
 ·
  rintro ⟨x, hx, h1, h2, h3⟩
  obtain ⟨d, hd, rfl⟩ := List.mem_map.1 hx
  have e : d = (n, s) := Prod.ext h1 (by have : d.2 ≤ s := h2; have : s ≤ d.2 := h3; show d.2 = s; omega)
  exact e ▸ hd
 ·
  intro h
  exact ⟨(n, s, s), List.mem_map.2 ⟨(n, s), h, rfl⟩, rfl, Int.le_refl _, Int.le_refl _⟩
theorem alone_ok (l : List (Int × Int)) : ∀ x ∈ l.map aloneP, SpOk x := by
 intro x hx
 obtain ⟨d, hd, rfl⟩ := List.mem_map.1 hx
 exact Int.le_refl _
theorem alone_B3 {l : List (Int × Int)} (h : fineL l = true) : ∀ x ∈ l.map aloneP, B3 x := by
 intro x hx
 obtain ⟨d, hd, rfl⟩ := List.mem_map.1 hx
 have := fineL_iff.1 h d hd
 unfold FineQ at this
 unfold B3 aloneP
 simp only
 omega
theorem of_sorted {l m : List (Int × Int)} (hm : ∀ d, d ∈ m ↔ d ∈ l) (hs : m.Pairwise (fun x y => x.1 < y.1 ∨ x.1 = y.1 ∧ x.2 < y.2)) : (m.map aloneP).foldl pushP [] = tidyS (l.map aloneP) := by
 have t := tidy_norm (alone_ok l)
 have f := fold_norm (zs := m.map aloneP) (out := []) norm_nil (alone_ok m) (List.pairwise_map.2 (hs.imp (fun {x y} q => by unfold Le aloneP; simp only; omega))) (fun y z h => by simp at h)
 refine norm_ext f.1 t.1 (fun n s => ?_)
 rw [f.2 n s, t.2 n s, alone_mem, alone_mem, hm]
 exact ⟨fun q => q.resolve_left mem_nil, .inr⟩
end
section
open Go.RowKit Go.Lib


def aheadP (a b : EvP) : Bool := hasE b.q a.n a.s && decide (chkEv a = 0) && decide (chkEv b = 0)
theorem hasx_any (w : World) (x y : EvT) (e f : EvP) (hx : EvR w x e) (hy : EvR w y f) (hs : EvSm f) :
  Calls Tryz.prog 65 #[.slice y.B y.bl y.bc, .agg #[.int .i64 x.n, .int .i64 x.s]] w fun r w' => r = .returned (.bool (hasE f.q e.n e.s)) ∧ Chg [] w w' := by
 have h1 := hx.n
 have h2 := hx.s
 have h3 := hy.bl
 have h4 := hy.B
 rw [h3] at h4 ⊢
 rw [h1, h2]
 exact has_any w y.B y.bc f.q e.n e.s h4 hs.2.2

set_option maxRecDepth 100000 in
set_option maxHeartbeats 8000000 in
theorem evahead_any (w : World) (x y : EvT) (e f : EvP) (hx : EvR w x e) (hy : EvR w y f) (hs : EvSm e) (ht : EvSm f) :
  Calls Tryz.prog 40 #[.agg #[.int .i64 x.n, .int .i64 x.s, .string x.p, .int .i64 x.k, .int .i64 x.m, .slice x.A x.l x.c, .slice x.B x.bl x.bc], .agg #[.int .i64 y.n, .int .i64 y.s, .string y.p, .int .i64 y.k, .int .i64 y.m, .slice y.A y.l y.c, .slice y.B y.bl y.bc]] w fun r w' => r = .returned (.bool (aheadP e f)) ∧ Chg [] w w' := by
 obtain ⟨w2, hw, hc, b0, b1⟩ := news2 w (.cells #[.int .i64 x.n, .int .i64 x.s, .string x.p, .int .i64 x.k, .int .i64 x.m, .slice x.A x.l x.c, .slice x.B x.bl x.bc] 30) (.cells #[.int .i64 y.n, .int .i64 y.s, .string y.p, .int .i64 y.k, .int .i64 y.m, .slice y.A y.l y.c, .slice y.B y.bl y.bc] 30)
 have W2 := Lib.hid hw
 have C := Lib.hid hc
 have HX := Lib.hid (hx.chg hc)
 have HY := Lib.hid (hy.chg hc)
 have HS := Lib.hid hs
 have HT := Lib.hid ht
 have B0 := Lib.hid b0
 have B1 := Lib.hid b1
 generalize hv : aheadP e f = v
 have HV := Lib.hid hv
 clear hv hw hc hx hy hs ht b0 b1
 go_enter Tryz.func40, Tryz.ntmps40
 go_upto_region 1 with fail
 rw [← W2.out]
 generalize w.heap.size + 1 = g1 at *
 generalize w.heap.size = g0 at *
 have z0 := cell_of B0.out 0
 have z1 := cell_of B0.out 1
 have z2 := cell_of B0.out 2
 have z3 := cell_of B0.out 3
 have z4 := cell_of B0.out 4
 have z5 := cell_of B0.out 5
 have z6 := cell_of B0.out 6
 have y0 := cell_of B1.out 0
 have y1 := cell_of B1.out 1
 have y2 := cell_of B1.out 2
 have y3 := cell_of B1.out 3
 have y4 := cell_of B1.out 4
 have y5 := cell_of B1.out 5
 have y6 := cell_of B1.out 6
 simp only [List.getElem?_toArray, List.getElem?_cons_succ, List.getElem?_cons_zero] at z0 y0 z1 y1 z2 y2 z3 y3 z4 y4 z5 y5 z6 y6
 go_wp2_with fail
 refine (hasx_any w2 x y e f HX.out HY.out HT.out).mono ?_
 rintro r w3 ⟨rfl, hc⟩
 clear z0 y0 z1 y1 z2 y2 z3 y3 z4 y4 z5 y5 z6 y6
 replace C := Lib.hid (C.out.trans hc)
 replace HX := Lib.hid (HX.out.chg hc)
 replace HY := Lib.hid (HY.out.chg hc)
 replace B0 := Lib.hid (hc.at_ B0.out (by simp))
 replace B1 := Lib.hid (hc.at_ B1.out (by simp))
 clear hc
 rcases hh : hasE f.q e.n e.s with _ | _
 ·
  obtain rfl : v = false := by rw [← HV.out]; unfold aheadP; rw [hh]; rfl
  go_wp2; go_ret
  exact ⟨rfl, C.out⟩
 have z0 := cell_of B0.out 0
 have z1 := cell_of B0.out 1
 have z2 := cell_of B0.out 2
 have z3 := cell_of B0.out 3
 have z4 := cell_of B0.out 4
 have z5 := cell_of B0.out 5
 have z6 := cell_of B0.out 6
 have y0 := cell_of B1.out 0
 have y1 := cell_of B1.out 1
 have y2 := cell_of B1.out 2
 have y3 := cell_of B1.out 3
 have y4 := cell_of B1.out 4
 have y5 := cell_of B1.out 5
 have y6 := cell_of B1.out 6
 simp only [List.getElem?_toArray, List.getElem?_cons_succ, List.getElem?_cons_zero] at z0 y0 z1 y1 z2 y2 z3 y3 z4 y4 z5 y5 z6 y6
 go_wp2_with fail
 refine (evcheck_any w3 x e HX.out HS.out).mono ?_
 rintro r w4 ⟨rfl, hc⟩
 clear z0 y0 z1 y1 z2 y2 z3 y3 z4 y4 z5 y5 z6 y6
 replace C := Lib.hid (C.out.trans hc)
 replace HX := Lib.hid (HX.out.chg hc)
 replace HY := Lib.hid (HY.out.chg hc)
 replace B0 := Lib.hid (hc.at_ B0.out (by simp))
 replace B1 := Lib.hid (hc.at_ B1.out (by simp))
 clear hc
 rcases chkEv_two e with ha | ha
 rotate_left
 ·
  obtain rfl : v = false := by rw [← HV.out]; unfold aheadP; rw [ha]; simp
  rw [ha]
  go_wp2; go_ret
  exact ⟨rfl, C.out⟩
 rw [ha]
 have z0 := cell_of B0.out 0
 have z1 := cell_of B0.out 1
 have z2 := cell_of B0.out 2
 have z3 := cell_of B0.out 3
 have z4 := cell_of B0.out 4
 have z5 := cell_of B0.out 5
 have z6 := cell_of B0.out 6
 have y0 := cell_of B1.out 0
 have y1 := cell_of B1.out 1
 have y2 := cell_of B1.out 2
 have y3 := cell_of B1.out 3
 have y4 := cell_of B1.out 4
 have y5 := cell_of B1.out 5
 have y6 := cell_of B1.out 6
 simp only [List.getElem?_toArray, List.getElem?_cons_succ, List.getElem?_cons_zero] at z0 y0 z1 y1 z2 y2 z3 y3 z4 y4 z5 y5 z6 y6
 go_wp2_with fail
 refine (evcheck_any w4 y f HY.out HT.out).mono ?_
 rintro r w5 ⟨rfl, hc⟩
 clear z0 y0 z1 y1 z2 y2 z3 y3 z4 y4 z5 y5 z6 y6
 replace C := Lib.hid (C.out.trans hc)
 replace HX := Lib.hid (HX.out.chg hc)
 replace HY := Lib.hid (HY.out.chg hc)
 replace B0 := Lib.hid (hc.at_ B0.out (by simp))
 replace B1 := Lib.hid (hc.at_ B1.out (by simp))
 clear hc
 rcases chkEv_two f with hb | hb
 rotate_left
 ·
  obtain rfl : v = false := by rw [← HV.out]; unfold aheadP; rw [hb]; simp
  rw [hb]
  go_wp2; go_ret
  exact ⟨rfl, C.out⟩
 rw [hb]
 obtain rfl : v = true := by rw [← HV.out]; unfold aheadP; rw [hh, ha, hb]; rfl
 go_wp2; go_ret
 exact ⟨rfl, C.out⟩
end
section
open Go.RowKit Go.Lib

def ownS (e : EvP) : Sp := (e.n, e.s, e.s)
theorem chk_fine {e : EvP} (h : chkEv e = 0) : chkS e.q = 0 ∧ B3 (ownS e) ∧ lastL e.n e.q < e.s := by
 have o : EvOk e := by
  unfold chkEv at h
  split at h
  ·
   assumption
  ·
   exact absurd h (by decide)
 obtain ⟨o0, _, _, o3, o4⟩ := o
 have d : FineD e.n e.s := by
  by_cases f : FineD e.n e.s
  ·
   exact f
  ·
   have := chkD_odd f
   rw [show chkD e.n e.s = 0 from o0] at this
   exact absurd this (by decide)
 have q : chkS e.q = 0 := o3
 refine ⟨q, ?_, ?_⟩
 ·
  unfold FineD at d
  unfold B3 ownS
  simp only
  omega
 ·
  have := o4
  unfold evOk at this
  simp only [q, if_true] at this
  exact this
theorem own_out {e : EvP} (h : chkEv e = 0) : ¬ Mem e.q e.n e.s := by
 intro q
 have c := chk_fine h
 have := last_ge (wf_of_chk c.1).1 q
 omega
end
section
open Go.RowKit

set_option maxHeartbeats 400000 in
theorem longeff_any (w : World) (k m : Int) (A : Option Addr) (n c : Nat) (_hn : n ≤ 140737488351232) :
  Calls Tryz.prog 42 #[.agg #[.int .i64 k, .int .i64 m, .slice A n c]] w fun e w' => e = .returned (.bool (decide ((1200 : Int) < n))) ∧ Chg [] w w' := by
 go_enter Tryz.func42, Tryz.ntmps42
 go_wp2; go_ret
 exact ⟨rfl, (Chg.refl _ _).alloc _⟩
end
section
open Go.RowKit Go.Lib


def bigE (x : EvT) : Prop := 100 < x.p.size ∨ 1200 < x.l ∨ 100 < x.bl
instance (x : EvT) : Decidable (bigE x) := by unfold bigE; exact inferInstance
def longE (xs : List EvT) (most : Nat) : Bool := (xs.take (most + 1)).any (fun x => decide (bigE x)) || decide (most < xs.length)
theorem longE_no {xs : List EvT} {most : Nat} (h : longE xs most = false) : xs.length ≤ most ∧ ∀ x ∈ xs, ¬ bigE x := by
 unfold longE at h
 rw [Bool.or_eq_false_iff, decide_eq_false_iff_not, List.any_eq_false] at h
 refine ⟨by omega, fun x hx => ?_⟩
 have := h.1 x (by rw [List.take_of_length_le (by omega)]; exact hx)
 simpa using this
theorem longE_yes {xs : List EvT} {most k : Nat} {x : EvT} (hx : xs[k]? = some x) (hk : k ≤ most) (hb : bigE x) : longE xs most = true := by
 unfold longE
 rw [Bool.or_eq_true, List.any_eq_true]
 refine .inl ⟨x, ?_, decide_eq_true hb⟩
 have hl := (List.getElem?_eq_some_iff.1 hx).1
 exact List.mem_of_getElem? (i := k) (by rw [List.getElem?_take, if_pos (by omega)]; exact hx)
set_option maxRecDepth 100000 in
set_option maxHeartbeats 8000000 in
theorem longevs_any (w : World) (A : Option Addr) (c : Nat) (xs : List EvT) (most : Nat) (h : RdK evTy w A xs.length xs) (hn : xs.length ≤ 140737488351232) (hm : most ≤ 1000) (hs : ∀ x ∈ xs, x.l ≤ 140737488351232) :
  Calls Tryz.prog 7 #[.slice A xs.length c, .int .i64 (most : Int)] w fun r w' => r = .returned (.bool (longE xs most)) ∧ Chg [] w w' := by
 have H := Lib.hid h
 have HN := Lib.hid hn
 have HM := Lib.hid hm
 have HS := Lib.hid hs
 clear h hn hm hs
 generalize hv : longE xs most = v
 have HV := Lib.hid hv
 clear hv
 go_enter Tryz.func7, Tryz.ntmps7
 go_wp2
 go_loopw [5] (fun v5 wr => ∃ k : Nat, k ≤ xs.length ∧ k ≤ most + 1 ∧ v5 = .int .i64 k ∧ Hid (∀ x ∈ xs.take k, ¬ bigE x) ∧ Hid (Chg [] w wr)) (fun v5 _ => xs.length - (RowKit.intOf v5).toNat)
 case atStart => exact ⟨0, Nat.zero_le _, Nat.zero_le _, rfl, Lib.hid (by simp), Chg.refl _ _⟩
 case round =>
  obtain ⟨k, hk, hk2, rfl, NB, RC⟩ := hrel
  have i0 : (0 : Int) ≤ (k : Int) := by omega
  by_cases hlt : k < xs.length
  ·
   have i1 : (k : Int) < (xs.length : Int) := by omega
   by_cases hle : k ≤ most
   ·
    have i2 : (k : Int) ≤ (most : Int) := by omega
    have i3 : IntKind.i64.wrap ((k : Int) + 1) = (k : Int) + 1 := IntWalk.i64_in _ (by have := HN.out; omega)
    obtain ⟨x, hx⟩ : ∃ x, xs[k]? = some x := ⟨_, List.getElem?_eq_getElem hlt⟩
    obtain ⟨g, o, eA, _⟩ := H.out.line (by omega)
    subst eA
    obtain ⟨z0, z1, z2, z3, z4, z5, z6⟩ := evCells (H.out.chg RC.out (by simp)) hx
    have LY : Hid (bigE x → v = true) := Lib.hid (fun q => by rw [← HV.out]; exact longE_yes hx hle q)
    have NX : Hid (¬ bigE x → ∀ y ∈ xs.take (k + 1), ¬ bigE y) := Lib.hid (fun q y hy => by
     rw [List.take_add_one, hx] at hy
     rcases List.mem_append.1 hy with r | r
     ·
      exact NB.out y r
     ·
      simp at r; subst r; exact q)
    have XS := Lib.hid (HS.out x (List.mem_of_getElem? hx))
    clear hx
    by_cases b1 : 100 < x.p.size
    ·
     have j1 : (100 : Int) < (x.p.size : Int) := by omega
     obtain rfl := LY.out (.inl b1)
     clear LY NX b1; go_wp2; go_ret
     exact ⟨rfl, RC.out⟩
    have j1 : ¬ (100 : Int) < (x.p.size : Int) := by omega
    go_wp2_with fail
    refine (longeff_any wr x.k x.m x.A x.l x.c XS.out).mono ?_
    rintro r w2 ⟨rfl, hc⟩
    have C2 := Lib.hid (RC.out.trans hc)
    have y6 := hc.cell z6 (by simp)
    clear hc z0 z1 z2 z3 z4 z5 z6 j1
    by_cases b2 : 1200 < x.l
    ·
     rw [decide_eq_true (show (1200 : Int) < (x.l : Int) by omega)]
     obtain rfl := LY.out (.inr (.inl b2))
     clear LY NX b1 b2 y6; go_wp2; go_ret
     exact ⟨rfl, C2.out⟩
    rw [decide_eq_false (show ¬ (1200 : Int) < (x.l : Int) by omega)]
    by_cases b3 : 100 < x.bl
    ·
     have j3 : (100 : Int) < (x.bl : Int) := by omega
     obtain rfl := LY.out (.inr (.inr b3))
     clear LY NX b1 b2 b3; go_wp2; go_ret
     exact ⟨rfl, C2.out⟩
    have j3 : ¬ (100 : Int) < (x.bl : Int) := by omega
    have NN := Lib.hid (NX.out (fun q => by unfold bigE at q; omega))
    clear LY NX b1 b2 b3; go_wp2; go_round
    case rel => exact ⟨k + 1, by omega, by omega, by go_num, NN, C2.out⟩
    case measure => simp [RowKit.intOf]; omega
   ·
    have i2 : ¬ (k : Int) ≤ (most : Int) := by omega
    have i4 : (most : Int) < (xs.length : Int) := by omega
    obtain rfl : v = true := by rw [← HV.out]; unfold longE; rw [decide_eq_true (show most < xs.length by omega)]; simp
    clear HV; go_wp2; go_ret
    exact ⟨rfl, RC.out⟩
  ·
   obtain rfl : k = xs.length := by omega
   have i1 : ¬ (xs.length : Int) < (xs.length : Int) := by omega
   by_cases hle : most < xs.length
   ·
    have i4 : (most : Int) < (xs.length : Int) := by omega
    obtain rfl : v = true := by rw [← HV.out]; unfold longE; rw [decide_eq_true hle]; simp
    clear HV; go_wp2; go_ret
    exact ⟨rfl, RC.out⟩
   ·
    have i4 : ¬ (most : Int) < (xs.length : Int) := by omega
    obtain rfl : v = false := by
     rw [← HV.out]
     unfold longE
     rw [decide_eq_false hle, Bool.or_false, List.any_eq_false]
     intro x hx
     have q := NB.out x (by rw [List.take_length]; exact List.mem_of_mem_take hx)
     simpa using q
    clear HV; go_wp2; go_ret
    exact ⟨rfl, RC.out⟩
end
section
open Go.RowKit Go.Lib

theorem rdk_nil {α : Type} {R : RowTy α} {w : World} {n : Nat} {xs : List α} (h : RdK R w none n xs) : xs = [] := by
 cases xs with
 | nil => rfl
 | cons y ys =>
  have : 0 < (R.flat (y :: ys)).length := by rw [R.flat_len, List.length_cons]; exact Nat.mul_pos (by omega) R.kpos
  obtain ⟨a, h, _⟩ := h.cells 0 _ (List.getElem?_eq_getElem this); cases h
end
section
open Go.RowKit Go.Sort
section
variable {α : Type} [Inhabited α] {R : RowTy α}

theorem flatK_flat (d : Array α) : (flatK R.enc R.k d).toList = R.flat d.toList := by
 refine R.flat_ext _ _ (by simp) ?_
 intro q i x hx hi
 rw [Array.getElem?_toList] at hx ⊢
 have hq : q < d.size := (Array.getElem?_eq_some_iff.1 hx).1
 have hlt : q * R.k + i < d.size * R.k := by
  have := Nat.mul_le_mul_right R.k (show q + 1 ≤ d.size by omega)
  rw [Nat.succ_mul] at this
  omega
 have e := get_flatK R.enc R.k d (q * R.k + i) hlt
 have h1 : (q * R.k + i) / R.k = q := by
  rw [Nat.add_comm, Nat.add_mul_div_right _ _ R.kpos, Nat.div_eq_of_lt hi, Nat.zero_add]
 have h2 : (q * R.k + i) % R.k = i := by rw [Nat.add_comm, Nat.add_mul_mod_self_right, Nat.mod_eq_of_lt hi]
 rw [h1, h2] at e
 have hd : d[q]! = x := by
  rw [getElem!_pos d q hq]
  rw [Array.getElem?_eq_getElem hq] at hx
  exact Option.some.inj hx
 rw [hd] at e
 have hs : q * R.k + i < (flatK R.enc R.k d).size := by simpa using hlt
 rw [getElem!_pos (flatK R.enc R.k d) _ hs] at e
 have hi2 : i < (R.enc x).length := by rw [R.klen]; exact hi
 rw [getElem!_pos (R.enc x) _ hi2] at e
 rw [Array.getElem?_eq_getElem hs, List.getElem?_eq_getElem hi2, e]
theorem OwnK.holds {w : World} {g c : Nat} {xs : List α} (h : OwnK R w (some ⟨g, 0, none⟩) c xs) : HoldsK R.enc R.k w g 0 xs.toArray := by
 rcases h with ⟨h, _⟩ | ⟨g', full, h, hg, hl, _, hn, ht⟩
 ·
  cases h
 ·
  cases h
  intro j hj
  refine ⟨?_, free_of hg _⟩
  rw [Nat.zero_add, cell_of hg]
  have hs : j < (flatK R.enc R.k xs.toArray).size := hj
  rw [getElem!_pos (flatK R.enc R.k xs.toArray) _ hs]
  have e := flatK_flat (R := R) xs.toArray
  simp only at e
  have e2 : (flatK R.enc R.k xs.toArray)[j]? = (R.flat xs)[j]? := by rw [← Array.getElem?_toList, e]
  rw [Array.getElem?_eq_getElem hs] at e2
  have e3 : (R.flat full)[j]? = (R.flat xs)[j]? := by
   have hj2 : j < xs.length * R.k := by simpa using hj
   conv => rhs; rw [← ht, R.flat_take, List.getElem?_take, if_pos hj2]
  show (R.flat full).toArray[j]? = some (id _)
  rw [List.getElem?_toArray, e3, ← e2]
  rfl
theorem putCells_flat (xs ys full : List α) (hl : ys.length = xs.length) (hf : full.take xs.length = xs) (hn : xs.length ≤ full.length) :
  (putCells id 0 (flatK R.enc R.k ys.toArray) (R.flat full).toArray) = (R.flat (ys ++ full.drop xs.length)).toArray := by
 apply Array.toList_inj.1
 apply List.ext_getElem?
 intro p
 have hsz : (flatK R.enc R.k ys.toArray).size = xs.length * R.k := by simp [hl]
 rw [show (R.flat (ys ++ full.drop xs.length)).toArray.toList = R.flat (ys ++ full.drop xs.length) by simp, R.flat_app, R.flat_drop]
 rw [Array.getElem?_toList]
 unfold putCells
 rw [Array.getElem?_mapIdx, List.getElem?_toArray]
 by_cases hp : p < xs.length * R.k
 ·
  have hs : p < (flatK R.enc R.k ys.toArray).size := by omega
  have hp2 : p < (R.flat full).length := by rw [R.flat_len]; exact Nat.lt_of_lt_of_le hp (Nat.mul_le_mul_right _ hn)
  rw [List.getElem?_append_left (by rw [R.flat_len, hl]; exact hp), List.getElem?_eq_getElem hp2]
  simp only [Option.map_some, Nat.zero_le, true_and, Nat.zero_add]
  rw [if_pos hs, Nat.sub_zero, getElem!_pos (flatK R.enc R.k ys.toArray) _ hs]
  have e := flatK_flat (R := R) ys.toArray
  have e2 : (flatK R.enc R.k ys.toArray)[p]? = (R.flat ys)[p]? := by rw [← Array.getElem?_toList, e]
  rw [← e2, Array.getElem?_eq_getElem hs]
  rfl
 ·
  rw [List.getElem?_append_right (by rw [R.flat_len, hl]; omega), R.flat_len, hl, List.getElem?_drop, show xs.length * R.k + (p - xs.length * R.k) = p by omega]
  cases (R.flat full)[p]? with
  | none => rfl
  | some v =>
   simp only [Option.map_some]
   rw [if_neg (by rw [hsz]; omega)]
theorem OwnK.sorted {w : World} {g c : Nat} {xs ys : List α} (h : OwnK R w (some ⟨g, 0, none⟩) c xs) (hl : ys.length = xs.length) (n : Nat) (os : Array Obj) :
  OwnK R (sortWorldK R.enc R.k w g 0 n ys.toArray os) (some ⟨g, 0, none⟩) c ys ∧ Chg [g] w (sortWorldK R.enc R.k w g 0 n ys.toArray os) := by
 rcases h with ⟨h, _⟩ | ⟨g', full, h, hg, hfl, hm, hn, ht⟩
 ·
  cases h
 ·
  cases h
  have hsz : (sortWorldK R.enc R.k w g 0 n ys.toArray os).heap = (w.heap.modify g (onCells (putCells id 0 (flatK R.enc R.k ys.toArray)))) ++ os := rfl
  have hgl := lt_of_heap hg
  refine ⟨.inr ⟨g, ys ++ full.drop xs.length, rfl, ?_, by simp; omega, hm, by omega, ?_⟩, ⟨rfl, rfl, rfl, by rw [hsz]; simp, fun i hi hne => ?_⟩⟩
  ·
   rw [hsz, Array.getElem?_append_left (by simpa using hgl), Array.getElem?_modify, if_pos rfl, hg]
   simp only [Option.map_some, onCells]
   rw [putCells_flat xs ys full hl ht (by omega)]
  ·
   exact List.take_left
  ·
   rw [hsz, Array.getElem?_append_left (by simpa using hi), Array.getElem?_modify, if_neg (by simp at hne; exact fun h => hne h.symm)]
end
end
end Go.Proofs.YtomgjogkkoigbaaGreatDoor
