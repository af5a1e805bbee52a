/- The document's without. Sets of dots as lists of spans: how many dots they have, what is the last one, what is joined, left, within. Plain. What is joined of spans in order: purely. event.Ahead. Which past events make, and whether they are closed: purely. A writer, a reader that were made since a world w, and all that was there is as it was: the calls in this form. Package effect: compare, Same, Less, Size, Bytes. Package effect: Read. The statements' own functions over effects: SameEffect, LongEffect, of, file, awake. The kit's LongEvents. A row of nil has no elements. A row that the library has sorted, or cleared from some place on. slices.SortFunc at structs under a 'cmp' that need not part any two: what was there, in order. -/
import Derived.Test.YtdfapiffalmjcaaGreatDoorZsal
import Derived.Deep.Cut
import Derived.Test.YtdfapiffalmjcaaGreatDoorZsak
import Derived.Test.YtdfapiffalmjcaaGreatDoorZsad
import Derived.Test.YtdfapiffalmjcaaGreatDoorZsab
import Derived.Test.YtdfapiffalmjcaaGreatDoorZsac
import Derived.Deep.RegionHeld3
import Derived.Deep.CutRange
import Derived.Test.YtdfapiffalmjcaaGreatDoorZsaa
import Derived.Shelf.SlSortCmp.NoneTotal
import Derived.Lib.SlicesCompact
import Derived.Lib.SliceRun
import Derived.Test.YtdfapiffalmjcaaGreatDoorZsai
namespace Go.Proofs.YtdfapiffalmjcaaGreatDoor
section
set_option linter.unusedSimpArgs false
set_option linter.unusedVariables false

theorem lastM_from (node : Int) : ∀ (xs : List Sp) (k : Int), k ≤ xs.foldl (fun n x => if x.1 = node then max n x.2.2 else n) k ∧ ∀ x ∈ xs, x.1 = node → x.2.2 ≤ xs.foldl (fun n x => if x.1 = node then max n x.2.2 else n) k
  | [], k => ⟨Int.le_refl _, by simp⟩
  | x :: xs, k => by
    obtain ⟨h1, h2⟩ := lastM_from node xs (if x.1 = node then max k x.2.2 else k)
    rw [List.foldl_cons]
    by_cases q : x.1 = node
    · rw [if_pos q] at h1 h2 ⊢
      refine ⟨by omega, fun y hy e => ?_⟩
      rcases List.mem_cons.1 hy with rfl | hy
      · omega
      · exact h2 y hy e
    · rw [if_neg q] at h1 h2 ⊢
      refine ⟨by omega, fun y hy e => ?_⟩
      rcases List.mem_cons.1 hy with rfl | hy
      · exact absurd e q
      · exact h2 y hy e
theorem last_ge {xs : List Sp} (h : WfC xs) {n s : Int} (hm : Mem xs n s) : s ≤ lastL n xs := by
  rw [← last_all n h]
  obtain ⟨x, hx, e, _, l⟩ := hm
  exact Int.le_trans l ((lastM_from n xs 0).2 x hx e)
theorem bound_le {l : List Sp} (h : l.length ≤ 4000) : boundP l = (0, l) := by unfold boundP; rw [if_neg (by omega)]
theorem has_iff {xs : List Sp} (h : chkS xs = 0) (n s : Int) : hasE xs n s = decide (Mem xs n s) := by
  unfold hasE
  rw [decide_eq_true h, Bool.true_and]
theorem wf_B3 {xs : List Sp} (h : WfC xs) : ∀ x ∈ xs, B3 x := fin_of h
end
section
open Go.RowKit Go.Lib
set_option linter.unusedSimpArgs false
set_option linter.unusedVariables false

theorem B3.ok {x : Sp} (h : B3 x) : SpOk x := by unfold B3 at h; unfold SpOk; omega
/-- What was put in order, and then joined, is what is tidied. -/
theorem join_sorted {l m : List Sp} (hp : m.Perm l) (hs : m.Pairwise Le) (hb : ∀ x ∈ l, SpOk x) : m.foldl pushP [] = tidyS l := by
  have a := fold_norm (zs := m) norm_nil (fun x hx => hb x (hp.mem_iff.1 hx)) hs (by simp)
  have b := tidy_norm hb
  exact norm_ext a.1 b.1 (fun n s => by
    rw [a.2, b.2, mem_same (l := m) (m := l) (fun y => hp.mem_iff)]
    exact ⟨fun q => q.elim (fun q => absurd q mem_nil) id, .inr⟩)
theorem sorted_last {ms : List Sp} (hs : ms.Pairwise Le) (hb : ∀ x ∈ ms, SpOk x) {k : Nat} {x : Sp} (hx : ms[k]? = some x) : ∀ y, ((ms.take k).foldl pushP []).getLast? = some y → Le y x := by
  have hk := (List.getElem?_eq_some_iff.1 hx).1
  refine fold_last _ [] x norm_nil (fun z hz => hb z (List.mem_of_mem_take hz)) (hs.sublist (List.take_sublist _ _)) (fun z hz => ?_) (by simp) (by simp)
  obtain ⟨q, hq, rfl⟩ := List.getElem_of_mem hz
  rw [List.length_take] at hq
  rw [List.getElem_take]
  have h1 := List.pairwise_iff_getElem.1 hs q k (by omega) hk (by omega)
  rw [List.getElem?_eq_getElem hk] at hx
  cases hx
  exact h1
end
section
open Go.RowKit Go.Lib
set_option linter.unusedSimpArgs false
set_option linter.unusedVariables false


/-- Is one ahead of the other one? -/
def aheadP (a b : EvP) : Bool := hasE b.q a.n a.s && decide (chkEv a = 0) && decide (chkEv b = 0)
theorem hasx_any (w : World) (x y : EvT) (e f : EvP) (hx : EvR w x e) (hy : EvR w y f) (hs : EvSm f) :
    Calls Tryz.prog 61 #[.slice y.B y.bl y.bc, .agg #[.int .i64 x.n, .int .i64 x.s]] w fun r w' => r = .returned (.bool (hasE f.q e.n e.s)) ∧ Chg [] w w' := by
  have h1 := hx.n
  have h2 := hx.s
  have h3 := hy.bl
  have h4 := hy.B
  rw [h3] at h4 ⊢
  rw [h1, h2]
  exact has_any w y.B y.bc f.q e.n e.s h4 hs.2.2

set_option maxRecDepth 100000 in
set_option maxHeartbeats 8000000 in
theorem evahead_any (w : World) (x y : EvT) (e f : EvP) (hx : EvR w x e) (hy : EvR w y f) (hs : EvSm e) (ht : EvSm f) :
    Calls Tryz.prog 24 #[.agg #[.int .i64 x.n, .int .i64 x.s, .string x.p, .int .i64 x.k, .int .i64 x.m, .slice x.A x.l x.c, .slice x.B x.bl x.bc], .agg #[.int .i64 y.n, .int .i64 y.s, .string y.p, .int .i64 y.k, .int .i64 y.m, .slice y.A y.l y.c, .slice y.B y.bl y.bc]] w fun r w' => r = .returned (.bool (aheadP e f)) ∧ Chg [] w w' := by
  obtain ⟨w2, hw, hc, b0, b1⟩ := news2 w (.cells #[.int .i64 x.n, .int .i64 x.s, .string x.p, .int .i64 x.k, .int .i64 x.m, .slice x.A x.l x.c, .slice x.B x.bl x.bc] 30) (.cells #[.int .i64 y.n, .int .i64 y.s, .string y.p, .int .i64 y.k, .int .i64 y.m, .slice y.A y.l y.c, .slice y.B y.bl y.bc] 30)
  have W2 := Lib.hid hw
  have C := Lib.hid hc
  have HX := Lib.hid (hx.chg hc)
  have HY := Lib.hid (hy.chg hc)
  have HS := Lib.hid hs
  have HT := Lib.hid ht
  have B0 := Lib.hid b0
  have B1 := Lib.hid b1
  generalize hv : aheadP e f = v
  have HV := Lib.hid hv
  clear hv hw hc hx hy hs ht b0 b1
  go_enter Tryz.func24, Tryz.ntmps24
  go_upto_region 1 with fail
  rw [← W2.out]
  generalize w.heap.size + 1 = g1 at *
  generalize w.heap.size = g0 at *
  have z0 := cell_of B0.out 0
  have z1 := cell_of B0.out 1
  have z2 := cell_of B0.out 2
  have z3 := cell_of B0.out 3
  have z4 := cell_of B0.out 4
  have z5 := cell_of B0.out 5
  have z6 := cell_of B0.out 6
  have y0 := cell_of B1.out 0
  have y1 := cell_of B1.out 1
  have y2 := cell_of B1.out 2
  have y3 := cell_of B1.out 3
  have y4 := cell_of B1.out 4
  have y5 := cell_of B1.out 5
  have y6 := cell_of B1.out 6
  simp only [List.getElem?_toArray, List.getElem?_cons_succ, List.getElem?_cons_zero] at z0 y0 z1 y1 z2 y2 z3 y3 z4 y4 z5 y5 z6 y6
  go_wp2_with fail
  refine (hasx_any w2 x y e f HX.out HY.out HT.out).mono ?_
  rintro r w3 ⟨rfl, hc⟩
  clear z0 y0 z1 y1 z2 y2 z3 y3 z4 y4 z5 y5 z6 y6
  replace C := Lib.hid (C.out.trans hc)
  replace HX := Lib.hid (HX.out.chg hc)
  replace HY := Lib.hid (HY.out.chg hc)
  replace B0 := Lib.hid (hc.at_ B0.out (by simp))
  replace B1 := Lib.hid (hc.at_ B1.out (by simp))
  clear hc
  rcases hh : hasE f.q e.n e.s with _ | _
  · obtain rfl : v = false := by rw [← HV.out]; unfold aheadP; rw [hh]; rfl
    go_wp2
    go_ret
    exact ⟨rfl, C.out⟩
  have z0 := cell_of B0.out 0
  have z1 := cell_of B0.out 1
  have z2 := cell_of B0.out 2
  have z3 := cell_of B0.out 3
  have z4 := cell_of B0.out 4
  have z5 := cell_of B0.out 5
  have z6 := cell_of B0.out 6
  have y0 := cell_of B1.out 0
  have y1 := cell_of B1.out 1
  have y2 := cell_of B1.out 2
  have y3 := cell_of B1.out 3
  have y4 := cell_of B1.out 4
  have y5 := cell_of B1.out 5
  have y6 := cell_of B1.out 6
  simp only [List.getElem?_toArray, List.getElem?_cons_succ, List.getElem?_cons_zero] at z0 y0 z1 y1 z2 y2 z3 y3 z4 y4 z5 y5 z6 y6
  go_wp2_with fail
  refine (evcheck_any w3 x e HX.out HS.out).mono ?_
  rintro r w4 ⟨rfl, hc⟩
  clear z0 y0 z1 y1 z2 y2 z3 y3 z4 y4 z5 y5 z6 y6
  replace C := Lib.hid (C.out.trans hc)
  replace HX := Lib.hid (HX.out.chg hc)
  replace HY := Lib.hid (HY.out.chg hc)
  replace B0 := Lib.hid (hc.at_ B0.out (by simp))
  replace B1 := Lib.hid (hc.at_ B1.out (by simp))
  clear hc
  rcases chkEv_two e with ha | ha
  rotate_left
  · obtain rfl : v = false := by rw [← HV.out]; unfold aheadP; rw [ha]; simp
    rw [ha]
    go_wp2
    go_ret
    exact ⟨rfl, C.out⟩
  rw [ha]
  have z0 := cell_of B0.out 0
  have z1 := cell_of B0.out 1
  have z2 := cell_of B0.out 2
  have z3 := cell_of B0.out 3
  have z4 := cell_of B0.out 4
  have z5 := cell_of B0.out 5
  have z6 := cell_of B0.out 6
  have y0 := cell_of B1.out 0
  have y1 := cell_of B1.out 1
  have y2 := cell_of B1.out 2
  have y3 := cell_of B1.out 3
  have y4 := cell_of B1.out 4
  have y5 := cell_of B1.out 5
  have y6 := cell_of B1.out 6
  simp only [List.getElem?_toArray, List.getElem?_cons_succ, List.getElem?_cons_zero] at z0 y0 z1 y1 z2 y2 z3 y3 z4 y4 z5 y5 z6 y6
  go_wp2_with fail
  refine (evcheck_any w4 y f HY.out HT.out).mono ?_
  rintro r w5 ⟨rfl, hc⟩
  clear z0 y0 z1 y1 z2 y2 z3 y3 z4 y4 z5 y5 z6 y6
  replace C := Lib.hid (C.out.trans hc)
  replace HX := Lib.hid (HX.out.chg hc)
  replace HY := Lib.hid (HY.out.chg hc)
  replace B0 := Lib.hid (hc.at_ B0.out (by simp))
  replace B1 := Lib.hid (hc.at_ B1.out (by simp))
  clear hc
  rcases chkEv_two f with hb | hb
  rotate_left
  · obtain rfl : v = false := by rw [← HV.out]; unfold aheadP; rw [hb]; simp
    rw [hb]
    go_wp2
    go_ret
    exact ⟨rfl, C.out⟩
  rw [hb]
  obtain rfl : v = true := by rw [← HV.out]; unfold aheadP; rw [hh, ha, hb]; rfl
  go_wp2
  go_ret
  exact ⟨rfl, C.out⟩
end
section
open Go.RowKit Go.Lib
set_option linter.unusedSimpArgs false
set_option linter.unusedVariables false

def ownS (e : EvP) : Sp := (e.n, e.s, e.s)
/-- The dots and the pasts of them all. -/
def allsE (es : List EvP) : List Sp := es.flatMap (fun e => ownS e :: e.q)
def okAll (es : List EvP) : Bool := es.all (fun e => decide (chkEv e = 0))
def pastE (es : List EvP) : Int × List Sp := if okAll es = true then boundP (tidyS (allsE es)) else (2, [])
theorem okAll_iff {es : List EvP} : okAll es = true ↔ ∀ e ∈ es, chkEv e = 0 := by
  unfold okAll
  rw [List.all_eq_true]
  exact ⟨fun h e he => of_decide_eq_true (h e he), fun h e he => decide_eq_true (h e he)⟩
theorem chk_fine {e : EvP} (h : chkEv e = 0) : chkS e.q = 0 ∧ B3 (ownS e) ∧ lastL e.n e.q < e.s := by
  have o : EvOk e := by
    unfold chkEv at h
    split at h
    · assumption
    · exact absurd h (by decide)
  obtain ⟨o0, _, _, o3, o4⟩ := o
  have d : FineD e.n e.s := by
    by_cases f : FineD e.n e.s
    · exact f
    · have := chkD_odd f
      rw [show chkD e.n e.s = 0 from o0] at this
      exact absurd this (by decide)
  have q : chkS e.q = 0 := o3
  refine ⟨q, ?_, ?_⟩
  · unfold FineD at d
    unfold B3 ownS
    simp only
    omega
  · have := o4
    unfold evOk at this
    simp only [q, if_true] at this
    exact this
theorem chk_len {e : EvP} (h : chkEv e = 0) : e.q.length ≤ 4000 := (wf_of_chk (chk_fine h).1).2
theorem alls_B3 {es : List EvP} (h : okAll es = true) : ∀ x ∈ allsE es, B3 x := by
  intro x hx
  obtain ⟨e, he, hm⟩ := List.mem_flatMap.1 hx
  have c := chk_fine (okAll_iff.1 h e he)
  rcases List.mem_cons.1 hm with r | r
  · rw [r]; exact c.2.1
  · exact wf_B3 (wf_of_chk c.1).1 x r
theorem alls_snoc (es : List EvP) (e : EvP) : allsE (es ++ [e]) = allsE es ++ ownS e :: e.q := by simp [allsE]
theorem alls_take {es : List EvP} {k : Nat} {e : EvP} (h : es[k]? = some e) : allsE (es.take (k + 1)) = allsE (es.take k) ++ ownS e :: e.q := by
  rw [List.take_add_one, h]
  exact alls_snoc _ _
theorem okAll_take {es : List EvP} {k : Nat} {e : EvP} (h : es[k]? = some e) : okAll (es.take (k + 1)) = (okAll (es.take k) && decide (chkEv e = 0)) := by
  rw [List.take_add_one, h]
  simp [okAll]
theorem okAll_no {es : List EvP} {k : Nat} {e : EvP} (h : es[k]? = some e) (hc : chkEv e ≠ 0) : okAll es = false := by
  rcases q : okAll es with _ | _
  · rfl
  · exact absurd (okAll_iff.1 q e (List.mem_of_getElem? h)) hc
/-- Two events of closed ones. -/
def OkTwo (a b : EvP) : Prop := ¬ (a.n = b.n ∧ a.s = b.s) ∧ (aheadP a b = true → withinE a.q b.q = true) ∧ (aheadP b a = true → withinE b.q a.q = true)
instance (a b : EvP) : Decidable (OkTwo a b) := by unfold OkTwo; exact inferInstance
theorem OkTwo.symm {a b : EvP} (h : OkTwo a b) : OkTwo b a := ⟨fun q => h.1 ⟨q.1.symm, q.2.symm⟩, h.2.2, h.2.1⟩
/-- Do these bring along all that is ahead of them? -/
def closedE (es : List EvP) : Bool := okAll es && decide (es.Pairwise OkTwo)
/-- One way of two. -/
def OneWay (a b : EvP) : Prop := ¬ (a.n = b.n ∧ a.s = b.s) ∧ (aheadP a b = true → withinE a.q b.q = true)
theorem pair_at {es : List EvP} : es.Pairwise OkTwo ↔ ∀ (i k : Nat) (a b : EvP), es[i]? = some a → es[k]? = some b → k ≠ i → OneWay a b := by
  rw [List.pairwise_iff_getElem]
  constructor
  · intro h i k a b ha hb hne
    obtain ⟨hi, ea⟩ := List.getElem?_eq_some_iff.1 ha
    obtain ⟨hk, eb⟩ := List.getElem?_eq_some_iff.1 hb
    subst ea eb
    by_cases q : i < k
    · have := h i k hi hk q
      exact ⟨this.1, this.2.1⟩
    · have := (h k i hk hi (by omega)).symm
      exact ⟨this.1, this.2.1⟩
  · intro h i k hi hk q
    have a := h i k _ _ (List.getElem?_eq_getElem hi) (List.getElem?_eq_getElem hk) (by omega)
    have b := h k i _ _ (List.getElem?_eq_getElem hk) (List.getElem?_eq_getElem hi) (by omega)
    exact ⟨a.1, a.2, b.2⟩
theorem closed_no_chk {es : List EvP} {k : Nat} {e : EvP} (h : es[k]? = some e) (hc : chkEv e ≠ 0) : closedE es = false := by
  unfold closedE
  rw [okAll_no h hc]
  rfl
theorem closed_no_two {es : List EvP} {i k : Nat} {a b : EvP} (ha : es[i]? = some a) (hb : es[k]? = some b) (hne : k ≠ i) (hc : ¬ OneWay a b) : closedE es = false := by
  unfold closedE
  rw [decide_eq_false (fun q => hc (pair_at.1 q i k a b ha hb hne)), Bool.and_false]
theorem closed_perm {es fs : List EvP} (h : es.Perm fs) : closedE es = closedE fs := by
  have h1 : okAll es = okAll fs := by
    have : okAll es = true ↔ okAll fs = true := by
      rw [okAll_iff, okAll_iff]
      exact ⟨fun q e he => q e (h.mem_iff.2 he), fun q e he => q e (h.mem_iff.1 he)⟩
    rcases a : okAll es with _ | _ <;> rcases b : okAll fs with _ | _ <;> simp_all
  have h2 : es.Pairwise OkTwo ↔ fs.Pairwise OkTwo := h.pairwise_iff (fun {a b} q => q.symm)
  unfold closedE
  rw [h1, decide_eq_decide.2 h2]
/-- Is all that is ahead of it within its past? -/
def bringsE (m : List EvP) (e : EvP) : Bool := e.q.all (fun s => m.all (fun x => !(decide (InS s x.n x.s)) || withinE x.q e.q))
theorem brings_iff {m : List EvP} {e : EvP} : bringsE m e = true ↔ ∀ x ∈ m, Mem e.q x.n x.s → withinE x.q e.q = true := by
  unfold bringsE
  rw [List.all_eq_true]
  constructor
  · rintro h x hx ⟨s, hs, hi⟩
    have := List.all_eq_true.1 (h s hs) x hx
    rw [decide_eq_true hi] at this
    simpa using this
  · intro h s hs
    rw [List.all_eq_true]
    intro x hx
    by_cases hi : InS s x.n x.s
    · rw [h x hx ⟨s, hs, hi⟩, Bool.or_true]
    · rw [decide_eq_false hi]
      rfl
/-- An event's own dot is not of its past. -/
theorem own_out {e : EvP} (h : chkEv e = 0) : ¬ Mem e.q e.n e.s := by
  intro q
  have c := chk_fine h
  have := last_ge (wf_of_chk c.1).1 q
  omega
/-- Of events that are in order, each of which may be: what the program asks is what the document asks. -/
theorem closed_brings {m : List EvP} (h : okAll m = true) (hd : m.Pairwise (fun a b => ¬ (a.n = b.n ∧ a.s = b.s))) : closedE m = m.all (fun e => bringsE m e) := by
  have ok := okAll_iff.1 h
  have key : closedE m = true ↔ m.all (fun e => bringsE m e) = true := by
    unfold closedE
    rw [h, Bool.true_and, decide_eq_true_iff, List.all_eq_true]
    constructor
    · intro hp e he
      refine brings_iff.2 (fun x hx hm => ?_)
      obtain ⟨i, hi⟩ := List.getElem?_of_mem hx
      obtain ⟨k, hk⟩ := List.getElem?_of_mem he
      by_cases q : k = i
      · subst q
        rw [hi] at hk
        cases hk
        exact absurd hm (own_out (ok _ hx))
      · refine (pair_at.1 hp i k x e hi hk q).2 ?_
        unfold aheadP
        rw [has_iff (chk_fine (ok e he)).1, decide_eq_true hm, decide_eq_true (ok x hx), decide_eq_true (ok e he)]
        rfl
    · intro hb
      have two : ∀ a ∈ m, ∀ b ∈ m, aheadP a b = true → withinE a.q b.q = true := fun a ha b hb' q => by
        unfold aheadP at q
        simp only [Bool.and_eq_true, decide_eq_true_eq] at q
        rw [has_iff (chk_fine (ok b hb')).1] at q
        exact brings_iff.1 (hb b hb') a ha (of_decide_eq_true q.1.1)
      refine hd.imp_of_mem (fun {a b} ha hb' q => ⟨q, two a ha b hb', two b hb' a ha⟩)
  rcases a : closedE m with _ | _ <;> rcases b : m.all (fun e => bringsE m e) with _ | _
  · rfl
  · rw [key.2 b] at a; exact absurd a (by decide)
  · rw [key.1 a] at b; exact absurd b (by decide)
  · rfl
theorem perm_zip {α β : Type} {m xs : List α} (h : m.Perm xs) : ∀ es : List β, es.length = xs.length → ∃ es' : List β, es'.length = m.length ∧ (m.zip es').Perm (xs.zip es) := by
  induction h with
  | nil => intro es _; exact ⟨[], rfl, by simp⟩
  | cons x h ih =>
    intro es he
    match es, he with
    | e :: es, he =>
      obtain ⟨f, hf, hp⟩ := ih es (by simpa using he)
      exact ⟨e :: f, by simp [hf], by simpa using hp.cons (x, e)⟩
  | swap x y l =>
    intro es he
    match es, he with
    | a :: b :: es, he => exact ⟨b :: a :: es, by simp at he ⊢; omega, by simpa using List.Perm.swap (x, a) (y, b) (l.zip es)⟩
  | trans h1 h2 i1 i2 =>
    intro es he
    obtain ⟨f, hf, hp⟩ := i2 es he
    obtain ⟨g, hg, hq⟩ := i1 f hf
    exact ⟨g, hg, hq.trans hp⟩
end
section
open Go.RowKit

/-- How two effects compare. -/
def cmpE (k m : Int) (xs : List UInt8) (k' m' : Int) (ys : List UInt8) : Int := or3 (cmpI k k') (cmpI m m') (Lib.compareBytes xs ys)

set_option maxHeartbeats 1000000 in
theorem ecompare_any (w : World) (k m k' m' : Int) (A B : Option Addr) (n c n' d : Nat) (xs ys : List UInt8) (h : Bs w A n xs) (h' : Bs w B n' ys) :
    Calls Tryz.prog 116 #[.agg #[.int .i64 k, .int .i64 m, .slice A n c], .agg #[.int .i64 k', .int .i64 m', .slice B n' d]] w fun e w' => e = .returned (.int .i64 (cmpE k m xs k' m' ys)) ∧ Chg [] w w' := by
  obtain ⟨w0, hw0⟩ : ∃ w0 : World, w0 = (w.alloc (.cells #[.int .i64 k, .int .i64 m, .slice A n c] 27)).alloc (.cells #[.int .i64 k', .int .i64 m', .slice B n' d] 27) := ⟨_, rfl⟩
  have c0 : Chg [] w w0 := hw0 ▸ ((Chg.refl [] w).alloc _).alloc _
  have b0 : w0.heap[w.heap.size]? = some (.cells #[.int .i64 k, .int .i64 m, .slice A n c] 27 (0, 0)) := hw0 ▸ ((Chg.refl [] _).alloc _).at_ (heap_alloc_new w _) (by simp)
  have b1 : w0.heap[w.heap.size + 1]? = some (.cells #[.int .i64 k', .int .i64 m', .slice B n' d] 27 (0, 0)) := hw0 ▸ heap_alloc_two w _ _
  have k0 := cell_of b0 0
  have k1 := cell_of b0 1
  have k2 := cell_of b0 2
  have k3 := cell_of b1 0
  have k4 := cell_of b1 1
  have k5 := cell_of b1 2
  simp only [List.getElem?_toArray, List.getElem?_cons_succ, List.getElem?_cons_zero] at k0 k1 k2 k3 k4 k5
  have g0 := lt_of_heap b0
  have g1 := lt_of_heap b1
  have H := Lib.hid (h.chg c0 (by simp))
  have H' := Lib.hid (h'.chg c0 (by simp))
  have W0 := Lib.hid hw0
  have C0 := Lib.hid c0
  clear hw0 c0 b0 b1 h h'
  unfold cmpE
  have hz : ∀ j, ¬ (w0.heap.size = w.heap.size) := fun _ => by omega
  generalize hr : or3 (cmpI k k') (cmpI m m') (Lib.compareBytes xs ys) = R
  have HR := Lib.hid hr
  clear hr hz
  go_enter Tryz.func116, Tryz.ntmps116
  go_wp2
  rw [← W0.out]
  have n1 := World.new_ne w0 ⟨w.heap.size, 0, none⟩ k0
  have n2 := World.new_ne w0 ⟨w.heap.size + 1, 0, none⟩ k3
  generalize w.heap.size + 1 = s1 at *
  generalize w.heap.size = s0 at *
  go_region_held3 (fun w' => w'.cell? ⟨s0, 0, none⟩ = some (.int .i64 k) ∧ w'.cell? ⟨s0, 1, none⟩ = some (.int .i64 m) ∧ w'.cell? ⟨s0, 2, none⟩ = some (.slice A n c) ∧ w'.cell? ⟨s1, 0, none⟩ = some (.int .i64 k') ∧ w'.cell? ⟨s1, 1, none⟩ = some (.int .i64 m') ∧ w'.cell? ⟨s1, 2, none⟩ = some (.slice B n' d)) (first | exact ⟨k0, k1, k2, k3, k4, k5⟩ | go_keep)
    ((first
      | (go_at_call 111; refine (cmpint_any _ _ _).mono ?_; rintro e w1 ⟨rfl, rfl⟩)
      | (go_at_call 150; refine (bcmp_any _ A B n n' c d xs ys (by first | exact H.out.chg (Chg.refl [] w0).drew (by simp) | exact H.out.chg ((Chg.refl [] w0).alloc _).drew (by simp)) (by first | exact H'.out.chg (Chg.refl [] w0).drew (by simp) | exact H'.out.chg ((Chg.refl [] w0).alloc _).drew (by simp))).mono ?_; rintro e w1 ⟨rfl, rfl⟩)))
  all_goals
    go_wp2_with fail
    refine (or3_any _ w0.heap.size (cmpI k k') (cmpI m m') (Lib.compareBytes xs ys) (show (w0.alloc _).drew.heap[_]? = _ from heap_alloc_new w0 _)).mono ?_
    rintro e w1 ⟨rfl, rfl⟩
    go_wp2
    go_ret
    exact ⟨by rw [HR.out]; rfl, (C0.out.alloc _).drew⟩

set_option maxHeartbeats 400000 in
theorem esame_any (w : World) (k m k' m' : Int) (A B : Option Addr) (n c n' d : Nat) (xs ys : List UInt8) (h : Bs w A n xs) (h' : Bs w B n' ys) :
    Calls Tryz.prog 93 #[.agg #[.int .i64 k, .int .i64 m, .slice A n c], .agg #[.int .i64 k', .int .i64 m', .slice B n' d]] w fun e w' => e = .returned (.bool (cmpE k m xs k' m' ys == 0)) ∧ Chg [] w w' := by
  have c0 := ((Chg.refl [] w).alloc (.cells #[.int .i64 k, .int .i64 m, .slice A n c] 27)).alloc (.cells #[.int .i64 k', .int .i64 m', .slice B n' d] 27)
  have C0 := Lib.hid c0
  have H := Lib.hid (h.chg c0 (by simp))
  have H' := Lib.hid (h'.chg c0 (by simp))
  clear c0 h h'
  go_enter Tryz.func93, Tryz.ntmps93
  go_wp2_with fail
  refine (ecompare_any _ k m k' m' A B n c n' d xs ys H.out H'.out).mono ?_
  rintro e w1 ⟨rfl, c1⟩
  have C1 := Lib.hid (C0.out.trans c1)
  clear c1
  go_wp2
  go_ret
  exact ⟨rfl, C1.out⟩
end
section
open Go.RowKit
set_option linter.unusedSimpArgs false

set_option maxHeartbeats 400000 in
theorem longeff_any (w : World) (k m : Int) (A : Option Addr) (n c : Nat) (_hn : n ≤ 140737488351232) :
    Calls Tryz.prog 26 #[.agg #[.int .i64 k, .int .i64 m, .slice A n c]] w fun e w' => e = .returned (.bool (decide ((1200 : Int) < n))) ∧ Chg [] w w' := by
  go_enter Tryz.func26, Tryz.ntmps26
  go_wp2
  go_ret
  exact ⟨rfl, (Chg.refl _ _).alloc _⟩
end
section
open Go.RowKit Go.Lib
set_option linter.unusedSimpArgs false
set_option linter.unusedVariables false


/-- More of an event than is gone through. -/
def bigE (x : EvT) : Prop := 100 < x.p.size ∨ 1200 < x.l ∨ 100 < x.bl
instance (x : EvT) : Decidable (bigE x) := by unfold bigE; exact inferInstance
def longE (xs : List EvT) (most : Nat) : Bool := (xs.take (most + 1)).any (fun x => decide (bigE x)) || decide (most < xs.length)
theorem longE_no {xs : List EvT} {most : Nat} (h : longE xs most = false) : xs.length ≤ most ∧ ∀ x ∈ xs, ¬ bigE x := by
  unfold longE at h
  rw [Bool.or_eq_false_iff, decide_eq_false_iff_not, List.any_eq_false] at h
  refine ⟨by omega, fun x hx => ?_⟩
  have := h.1 x (by rw [List.take_of_length_le (by omega)]; exact hx)
  simpa using this
theorem longE_yes {xs : List EvT} {most k : Nat} {x : EvT} (hx : xs[k]? = some x) (hk : k ≤ most) (hb : bigE x) : longE xs most = true := by
  unfold longE
  rw [Bool.or_eq_true, List.any_eq_true]
  refine .inl ⟨x, ?_, decide_eq_true hb⟩
  have hl := (List.getElem?_eq_some_iff.1 hx).1
  exact List.mem_of_getElem? (i := k) (by rw [List.getElem?_take, if_pos (by omega)]; exact hx)
set_option maxRecDepth 100000 in
set_option maxHeartbeats 8000000 in
theorem longevs_any (w : World) (A : Option Addr) (c : Nat) (xs : List EvT) (most : Nat) (h : RdK evTy w A xs.length xs) (hn : xs.length ≤ 140737488351232) (hm : most ≤ 1000) (hs : ∀ x ∈ xs, x.l ≤ 140737488351232) :
    Calls Tryz.prog 6 #[.slice A xs.length c, .int .i64 (most : Int)] w fun r w' => r = .returned (.bool (longE xs most)) ∧ Chg [] w w' := by
  have H := Lib.hid h
  have HN := Lib.hid hn
  have HM := Lib.hid hm
  have HS := Lib.hid hs
  clear h hn hm hs
  generalize hv : longE xs most = v
  have HV := Lib.hid hv
  clear hv
  go_enter Tryz.func6, Tryz.ntmps6
  go_wp2
  go_loopw [5] (fun v5 wr => ∃ k : Nat, k ≤ xs.length ∧ k ≤ most + 1 ∧ v5 = .int .i64 k ∧ Hid (∀ x ∈ xs.take k, ¬ bigE x) ∧ Hid (Chg [] w wr)) (fun v5 _ => xs.length - (RowKit.intOf v5).toNat)
  case atStart => exact ⟨0, Nat.zero_le _, Nat.zero_le _, rfl, Lib.hid (by simp), Chg.refl _ _⟩
  case round =>
    obtain ⟨k, hk, hk2, rfl, NB, RC⟩ := hrel
    have i0 : (0 : Int) ≤ (k : Int) := by omega
    by_cases hlt : k < xs.length
    · have i1 : (k : Int) < (xs.length : Int) := by omega
      by_cases hle : k ≤ most
      · have i2 : (k : Int) ≤ (most : Int) := by omega
        have i3 : IntKind.i64.wrap ((k : Int) + 1) = (k : Int) + 1 := IntWalk.i64_in _ (by have := HN.out; omega)
        obtain ⟨x, hx⟩ : ∃ x, xs[k]? = some x := ⟨_, List.getElem?_eq_getElem hlt⟩
        obtain ⟨g, o, eA, _⟩ := H.out.line (by omega)
        subst eA
        obtain ⟨z0, z1, z2, z3, z4, z5, z6⟩ := evCells (H.out.chg RC.out (by simp)) hx
        have LY : Hid (bigE x → v = true) := Lib.hid (fun q => by rw [← HV.out]; exact longE_yes hx hle q)
        have NX : Hid (¬ bigE x → ∀ y ∈ xs.take (k + 1), ¬ bigE y) := Lib.hid (fun q y hy => by
          rw [List.take_add_one, hx] at hy
          rcases List.mem_append.1 hy with r | r
          · exact NB.out y r
          · simp at r; subst r; exact q)
        have XS := Lib.hid (HS.out x (List.mem_of_getElem? hx))
        clear hx
        by_cases b1 : 100 < x.p.size
        · have j1 : (100 : Int) < (x.p.size : Int) := by omega
          obtain rfl := LY.out (.inl b1)
          clear LY NX b1
          go_wp2
          go_ret
          exact ⟨rfl, RC.out⟩
        have j1 : ¬ (100 : Int) < (x.p.size : Int) := by omega
        go_wp2_with fail
        refine (longeff_any wr x.k x.m x.A x.l x.c XS.out).mono ?_
        rintro r w2 ⟨rfl, hc⟩
        have C2 := Lib.hid (RC.out.trans hc)
        have y6 := hc.cell z6 (by simp)
        clear hc z0 z1 z2 z3 z4 z5 z6 j1
        by_cases b2 : 1200 < x.l
        · rw [decide_eq_true (show (1200 : Int) < (x.l : Int) by omega)]
          obtain rfl := LY.out (.inr (.inl b2))
          clear LY NX b1 b2 y6
          go_wp2
          go_ret
          exact ⟨rfl, C2.out⟩
        rw [decide_eq_false (show ¬ (1200 : Int) < (x.l : Int) by omega)]
        by_cases b3 : 100 < x.bl
        · have j3 : (100 : Int) < (x.bl : Int) := by omega
          obtain rfl := LY.out (.inr (.inr b3))
          clear LY NX b1 b2 b3
          go_wp2
          go_ret
          exact ⟨rfl, C2.out⟩
        have j3 : ¬ (100 : Int) < (x.bl : Int) := by omega
        have NN := Lib.hid (NX.out (fun q => by unfold bigE at q; omega))
        clear LY NX b1 b2 b3
        go_wp2
        go_round
        case rel => exact ⟨k + 1, by omega, by omega, by go_num, NN, C2.out⟩
        case measure => simp [RowKit.intOf]; omega
      · have i2 : ¬ (k : Int) ≤ (most : Int) := by omega
        have i4 : (most : Int) < (xs.length : Int) := by omega
        obtain rfl : v = true := by rw [← HV.out]; unfold longE; rw [decide_eq_true (show most < xs.length by omega)]; simp
        clear HV
        go_wp2
        go_ret
        exact ⟨rfl, RC.out⟩
    · obtain rfl : k = xs.length := by omega
      have i1 : ¬ (xs.length : Int) < (xs.length : Int) := by omega
      by_cases hle : most < xs.length
      · have i4 : (most : Int) < (xs.length : Int) := by omega
        obtain rfl : v = true := by rw [← HV.out]; unfold longE; rw [decide_eq_true hle]; simp
        clear HV
        go_wp2
        go_ret
        exact ⟨rfl, RC.out⟩
      · have i4 : ¬ (most : Int) < (xs.length : Int) := by omega
        obtain rfl : v = false := by
          rw [← HV.out]
          unfold longE
          rw [decide_eq_false hle, Bool.or_false, List.any_eq_false]
          intro x hx
          have q := NB.out x (by rw [List.take_length]; exact List.mem_of_mem_take hx)
          simpa using q
        clear HV
        go_wp2
        go_ret
        exact ⟨rfl, RC.out⟩
end
section
open Go.RowKit Go.Lib
set_option linter.unusedVariables false

theorem rdk_nil {α : Type} {R : RowTy α} {w : World} {n : Nat} {xs : List α} (h : RdK R w none n xs) : xs = [] := by
  cases xs with
  | nil => rfl
  | cons y ys =>
    have : 0 < (R.flat (y :: ys)).length := by rw [R.flat_len, List.length_cons]; exact Nat.mul_pos (by omega) R.kpos
    obtain ⟨a, h, _⟩ := h.cells 0 _ (List.getElem?_eq_getElem this); cases h
end
section
open Go.RowKit Go.Sort
set_option linter.unusedSimpArgs false
set_option linter.unusedVariables false
section
variable {α : Type} [Inhabited α] {R : RowTy α}

theorem flatK_flat (d : Array α) : (flatK R.enc R.k d).toList = R.flat d.toList := by
  refine R.flat_ext _ _ (by simp) ?_
  intro q i x hx hi
  rw [Array.getElem?_toList] at hx ⊢
  have hq : q < d.size := (Array.getElem?_eq_some_iff.1 hx).1
  have hlt : q * R.k + i < d.size * R.k := by
    have := Nat.mul_le_mul_right R.k (show q + 1 ≤ d.size by omega)
    rw [Nat.succ_mul] at this
    omega
  have e := get_flatK R.enc R.k d (q * R.k + i) hlt
  have h1 : (q * R.k + i) / R.k = q := by
    rw [Nat.add_comm, Nat.add_mul_div_right _ _ R.kpos, Nat.div_eq_of_lt hi, Nat.zero_add]
  have h2 : (q * R.k + i) % R.k = i := by rw [Nat.add_comm, Nat.add_mul_mod_self_right, Nat.mod_eq_of_lt hi]
  rw [h1, h2] at e
  have hd : d[q]! = x := by
    rw [getElem!_pos d q hq]
    rw [Array.getElem?_eq_getElem hq] at hx
    exact Option.some.inj hx
  rw [hd] at e
  have hs : q * R.k + i < (flatK R.enc R.k d).size := by simpa using hlt
  rw [getElem!_pos (flatK R.enc R.k d) _ hs] at e
  have hi2 : i < (R.enc x).length := by rw [R.klen]; exact hi
  rw [getElem!_pos (R.enc x) _ hi2] at e
  rw [Array.getElem?_eq_getElem hs, List.getElem?_eq_getElem hi2, e]
theorem OwnK.holds {w : World} {g c : Nat} {xs : List α} (h : OwnK R w (some ⟨g, 0, none⟩) c xs) : HoldsK R.enc R.k w g 0 xs.toArray := by
  rcases h with ⟨h, _⟩ | ⟨g', full, h, hg, hl, _, hn, ht⟩
  · cases h
  · cases h
    intro j hj
    refine ⟨?_, free_of hg _⟩
    rw [Nat.zero_add, cell_of hg]
    have hs : j < (flatK R.enc R.k xs.toArray).size := hj
    rw [getElem!_pos (flatK R.enc R.k xs.toArray) _ hs]
    have e := flatK_flat (R := R) xs.toArray
    simp only at e
    have e2 : (flatK R.enc R.k xs.toArray)[j]? = (R.flat xs)[j]? := by rw [← Array.getElem?_toList, e]
    rw [Array.getElem?_eq_getElem hs] at e2
    have e3 : (R.flat full)[j]? = (R.flat xs)[j]? := by
      have hj2 : j < xs.length * R.k := by simpa using hj
      conv => rhs; rw [← ht, R.flat_take, List.getElem?_take, if_pos hj2]
    show (R.flat full).toArray[j]? = some (id _)
    rw [List.getElem?_toArray, e3, ← e2]
    rfl
theorem putCells_flat (xs ys full : List α) (hl : ys.length = xs.length) (hf : full.take xs.length = xs) (hn : xs.length ≤ full.length) :
    (putCells id 0 (flatK R.enc R.k ys.toArray) (R.flat full).toArray) = (R.flat (ys ++ full.drop xs.length)).toArray := by
  apply Array.toList_inj.1
  apply List.ext_getElem?
  intro p
  have hsz : (flatK R.enc R.k ys.toArray).size = xs.length * R.k := by simp [hl]
  rw [show (R.flat (ys ++ full.drop xs.length)).toArray.toList = R.flat (ys ++ full.drop xs.length) by simp, R.flat_app, R.flat_drop]
  rw [Array.getElem?_toList]
  unfold putCells
  rw [Array.getElem?_mapIdx, List.getElem?_toArray]
  by_cases hp : p < xs.length * R.k
  · have hs : p < (flatK R.enc R.k ys.toArray).size := by omega
    have hp2 : p < (R.flat full).length := by rw [R.flat_len]; exact Nat.lt_of_lt_of_le hp (Nat.mul_le_mul_right _ hn)
    rw [List.getElem?_append_left (by rw [R.flat_len, hl]; exact hp), List.getElem?_eq_getElem hp2]
    simp only [Option.map_some, Nat.zero_le, true_and, Nat.zero_add]
    rw [if_pos hs, Nat.sub_zero, getElem!_pos (flatK R.enc R.k ys.toArray) _ hs]
    have e := flatK_flat (R := R) ys.toArray
    have e2 : (flatK R.enc R.k ys.toArray)[p]? = (R.flat ys)[p]? := by rw [← Array.getElem?_toList, e]
    rw [← e2, Array.getElem?_eq_getElem hs]
    rfl
  · rw [List.getElem?_append_right (by rw [R.flat_len, hl]; omega), R.flat_len, hl, List.getElem?_drop, show xs.length * R.k + (p - xs.length * R.k) = p by omega]
    cases (R.flat full)[p]? with
    | none => rfl
    | some v =>
      simp only [Option.map_some]
      rw [if_neg (by rw [hsz]; omega)]
theorem OwnK.sorted {w : World} {g c : Nat} {xs ys : List α} (h : OwnK R w (some ⟨g, 0, none⟩) c xs) (hl : ys.length = xs.length) (n : Nat) (os : Array Obj) :
    OwnK R (sortWorldK R.enc R.k w g 0 n ys.toArray os) (some ⟨g, 0, none⟩) c ys ∧ Chg [g] w (sortWorldK R.enc R.k w g 0 n ys.toArray os) := by
  rcases h with ⟨h, _⟩ | ⟨g', full, h, hg, hfl, hm, hn, ht⟩
  · cases h
  · cases h
    have hsz : (sortWorldK R.enc R.k w g 0 n ys.toArray os).heap = (w.heap.modify g (onCells (putCells id 0 (flatK R.enc R.k ys.toArray)))) ++ os := rfl
    have hgl := lt_of_heap hg
    refine ⟨.inr ⟨g, ys ++ full.drop xs.length, rfl, ?_, by simp; omega, hm, by omega, ?_⟩, ⟨rfl, rfl, rfl, by rw [hsz]; simp, fun i hi hne => ?_⟩⟩
    · rw [hsz, Array.getElem?_append_left (by simpa using hgl), Array.getElem?_modify, if_pos rfl, hg]
      simp only [Option.map_some, onCells]
      rw [putCells_flat xs ys full hl ht (by omega)]
    · exact List.take_left
    · rw [hsz, Array.getElem?_append_left (by simpa using hi), Array.getElem?_modify, if_neg (by simp at hne; exact fun h => hne h.symm)]
end
end
section
open Go.RowKit Go.Sort Go.Shelf
set_option linter.unusedSimpArgs false
set_option linter.unusedVariables false

theorem grow_ofp {w w' : World} (h : Chg [] w w') (hd : w.drawn ≤ w'.drawn) : ∃ q os, w' = Sort.grow (w.drewN q) os := by
  refine ⟨w'.drawn - w.drawn, w'.heap.extract w.heap.size w'.heap.size, ?_⟩
  obtain ⟨h1, h2, h3, h4, h5⟩ := h
  obtain ⟨hp, tp, dr, os, ou⟩ := w'
  obtain ⟨hp0, tp0, dr0, os0, ou0⟩ := w
  simp only at h1 h2 h3 h4 h5 hd ⊢
  subst h1 h2 h3
  simp only [Sort.grow, World.drewN, World.mk.injEq, true_and, and_true]
  refine ⟨?_, by omega⟩
  apply Array.ext_getElem?
  intro i
  by_cases hi : i < hp0.size
  · rw [Array.getElem?_append_left hi]
    exact h5 i hi (by simp)
  · rw [Array.getElem?_append_right (by omega), Array.getElem?_extract]
    by_cases hj : i < hp.size
    · rw [if_pos (by omega)]
      congr 1
      omega
    · rw [if_neg (by omega), Array.getElem?_eq_none (by omega)]
/-- What a 'cmp' tells, and that it only makes new memory. -/
def CmpSays {α : Type} [Inhabited α] (R : RowTy α) (g : Nat) (cf : α → α → Int) : Prop :=
  ∀ (W : World) (x y : α), Calls Tryz.prog g #[.agg (R.enc x).toArray, .agg (R.enc y).toArray] W fun e w' => e = .returned (.int .i64 (cf x y)) ∧ Chg [] W w' ∧ W.drawn ≤ w'.drawn
theorem sortp_some {α : Type} [Inhabited α] {R : RowTy α} {ρ : Ren} (L : SlLaysF0.n6 Tryz.prog ρ) (aE : ∀ w, (isAgg (ρ.t 24)).run Tryz.prog w = .ok true w) (zE : ∀ w, (Go.sizeOf (ρ.t 24)).run Tryz.prog w = .ok R.k w) (cf : α → α → Int) (hO : SWO (ltOf cf)) (g : Nat) (eg : ∀ args w, (callFunc g args).run Tryz.prog w = .ok (.enter g args) w)
    (hcmp : CmpSays R g cf) (w : World) (b c : Nat) (xs : List α) (h : OwnK R w (some ⟨b, 0, none⟩) c xs) (hm : xs.length < 4611686018427387904) :
    Calls Tryz.prog (ρ.f 6) #[.slice (some ⟨b, 0, none⟩) xs.length c, .func (.func g) #[] #[]] w fun e w' => e = .returned (.tuple #[]) ∧ ∃ ys, ys.Perm xs ∧ ys.Pairwise (fun x y => ltOf cf y x = false) ∧ OwnK R w' (some ⟨b, 0, none⟩) c ys ∧ Chg [b] w w' := by
  have hblk : b < w.heap.size := h.lt_ _ rfl
  have hc2 : CmpLays Tryz.prog g #[] R.enc R.k cf b 0 xs.toArray.size w := fun m os dk _ x y => by
    have := (hcmp (sortWorldK R.enc R.k w b 0 m dk os) x y).mono (fun e w' ⟨he, hc, hd⟩ => (⟨he, grow_ofp hc hd⟩ : e = Ending.returned (.int .i64 (cf x y)) ∧ ∃ q os', w' = grow ((sortWorldK R.enc R.k w b 0 m dk os).drewN q) os'))
    exact this
  have hcon := AnyQ.slices_SortFunc L R.k aE zE R.enc R.klen R.one cf hO g #[] b 0 c xs.toArray w eg hc2 h.holds hblk (by simpa using hm)
  refine Calls.mono hcon ?_
  rintro e w' ⟨he, d', n, os, ⟨hsz, _, hp⟩, hs, hw⟩
  have hlen : d'.toList.length = xs.length := by simpa using hsz
  have hsz2 : d'.size = xs.toArray.size := hsz
  have hp2 : d'.toList.Perm xs := by
    rw [← hsz, Array.extract_size] at hp
    rw [hsz, Array.extract_size] at hp
    simpa using hp
  have o := h.sorted (ys := d'.toList) hlen n os
  rw [show d'.toList.toArray = d' by simp, ← hw] at o
  refine ⟨he, d'.toList, hp2, ?_, o.1, o.2⟩
  rw [List.pairwise_iff_getElem]
  intro i j hi hj hij
  have hi' : i < d'.size := by simpa using hi
  have hj' : j < d'.size := by simpa using hj
  have := hs i j (Nat.zero_le _) hij (by rw [← hsz2]; exact hj')
  rw [getElem!_pos d' j hj', getElem!_pos d' i hi'] at this
  simpa using this
theorem sortp_any {α : Type} [Inhabited α] {R : RowTy α} {ρ : Ren} (L : SlLaysF0.n6 Tryz.prog ρ) (aE : ∀ w, (isAgg (ρ.t 24)).run Tryz.prog w = .ok true w) (zE : ∀ w, (Go.sizeOf (ρ.t 24)).run Tryz.prog w = .ok R.k w) (cf : α → α → Int) (hO : SWO (ltOf cf)) (g : Nat) (eg : ∀ args w, (callFunc g args).run Tryz.prog w = .ok (.enter g args) w)
    (hcmp : CmpSays R g cf) (w : World) (A : Option Addr) (c : Nat) (xs : List α) (h : OwnK R w A c xs) (hm : xs.length < 4611686018427387904) :
    Calls Tryz.prog (ρ.f 6) #[.slice A xs.length c, .func (.func g) #[] #[]] w fun e w' => e = .returned (.tuple #[]) ∧ ∃ ys, ys.Perm xs ∧ ys.Pairwise (fun x y => ltOf cf y x = false) ∧ OwnK R w' A c ys ∧ Chg (blkOf A) w w' := by
  rcases h.shape with ⟨rfl, rfl, rfl⟩ | ⟨b, rfl, _⟩
  · have := AnyF.slices_SortFunc_none L none 0 (.func (.func g) #[] #[]) w
    refine Calls.mono this ?_
    rintro e w' ⟨he, rfl⟩
    exact ⟨he, [], List.Perm.refl _, List.Pairwise.nil, OwnK.none_ _, Chg.refl _ _⟩
  · exact sortp_some L aE zE cf hO g eg hcmp w b c xs h hm
end
end Go.Proofs.YtdfapiffalmjcaaGreatDoor
