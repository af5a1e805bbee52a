/- The document's without. Sets of dots as lists of spans: how many dots they have, what is the last one, what is joined, left, within. Plain. What is joined of spans in order: purely. event.Ahead. Which past events make, and whether they are closed: purely. A writer, a reader that were made since a world w, and all that was there is as it was: the calls in this form. Package effect: compare, Same, Less, Size, Bytes. Package effect: Read. The statements' own functions over effects: SameEffect, LongEffect, of, file, awake. The kit's LongEvents. Events in order, by their dots: purely. -/
import Derived.Test.YtehmchdhlhchjaaGreatDoorZeao
import Derived.Deep.Cut
import Derived.Test.YtehmchdhlhchjaaGreatDoorZean
import Derived.Test.YtehmchdhlhchjaaGreatDoorZeae
import Derived.Test.YtehmchdhlhchjaaGreatDoorZeag
import Derived.Test.YtehmchdhlhchjaaGreatDoorZeaf
import Derived.Deep.RegionHeld3
import Derived.Deep.CutRange
import Derived.Test.YtehmchdhlhchjaaGreatDoorZeab
import Derived.Test.YtehmchdhlhchjaaGreatDoorZeam
set_option linter.unusedSimpArgs false
set_option linter.unusedVariables false
set_option maxHeartbeats 32000000
namespace Go.Proofs.YtehmchdhlhchjaaGreatDoor
section

theorem lastM_from (node : Int) : ∀ (xs : List Sp) (k : Int), k ≤ xs.foldl (fun n x => if x.1 = node then max n x.2.2 else n) k ∧ ∀ x ∈ xs, x.1 = node → x.2.2 ≤ xs.foldl (fun n x => if x.1 = node then max n x.2.2 else n) k
 | [], k => ⟨Int.le_refl _, by simp⟩
 | x :: xs, k => by
  obtain ⟨h1, h2⟩ := lastM_from node xs (if x.1 = node then max k x.2.2 else k)
  rw [List.foldl_cons]
  by_cases q : x.1 = node
  ·
   rw [if_pos q] at h1 h2 ⊢
   refine ⟨by omega, fun y hy e => ?_⟩
   rcases List.mem_cons.1 hy with rfl | hy
   ·
    omega
   ·
    exact h2 y hy e
  ·
   rw [if_neg q] at h1 h2 ⊢
   refine ⟨by omega, fun y hy e => ?_⟩
   rcases List.mem_cons.1 hy with rfl | hy
   ·
    exact absurd e q
   ·
    exact h2 y hy e
theorem last_ge {xs : List Sp} (h : WfC xs) {n s : Int} (hm : Mem xs n s) : s ≤ lastL n xs := by
 rw [← last_all n h]
 obtain ⟨x, hx, e, _, l⟩ := hm
 exact Int.le_trans l ((lastM_from n xs 0).2 x hx e)
theorem wf_mem {xs : List Sp} (h : WfC xs) {n s : Int} (hm : Mem xs n s) : 1 ≤ n ∧ n ≤ 200 ∧ 1 ≤ s ∧ s ≤ 2147483647 := by
 obtain ⟨x, hx, e, l, r⟩ := hm
 have := h.2 x hx
 omega
theorem wf_sub {m : List Sp} (h : Norm m) (hb : ∀ n s, Mem m n s → 1 ≤ n ∧ n ≤ 200 ∧ 1 ≤ s ∧ s ≤ 2147483647) : WfC m :=
 ⟨h, fun x hx => by
  have o := h.1 x hx
  unfold SpOk at o
  have a := hb x.1 x.2.1 ⟨x, hx, rfl, Int.le_refl _, o⟩
  have b := hb x.1 x.2.2 ⟨x, hx, rfl, o, Int.le_refl _⟩
  omega⟩
theorem push_len (out : List Sp) (z : Sp) : (pushP out z).length ≤ out.length + 1 := by
 unfold pushP
 split <;> (try split) <;> simp <;> omega
theorem fold_len : ∀ (zs out : List Sp), (zs.foldl pushP out).length ≤ out.length + zs.length
 | [], out => by simp
 | z :: zs, out => by
  have h1 := fold_len zs (pushP out z)
  have h2 := push_len out z
  rw [List.foldl_cons, List.length_cons]
  omega
theorem tidy_len (l : List Sp) : (tidyS l).length ≤ l.length := by
 have := fold_len (riseS l) []
 rw [(rise_props l).2.2] at this
 simpa [tidyS] using this
theorem bound_le {l : List Sp} (h : l.length ≤ 4000) : boundP l = (0, l) := by unfold boundP; rw [if_neg (by omega)]
theorem join_ok {a b : List Sp} (ha : chkS a = 0) (hb : chkS b = 0) (hl : a.length + b.length ≤ 4000) : joinE a b = (0, tidyS (a ++ b)) ∧ chkS (tidyS (a ++ b)) = 0 ∧ (tidyS (a ++ b)).length ≤ a.length + b.length ∧ ∀ n s, Mem (tidyS (a ++ b)) n s ↔ Mem a n s ∨ Mem b n s := by
 have wa := (wf_of_chk ha).1
 have wb := (wf_of_chk hb).1
 have t := tidy_norm (l := a ++ b) (fun x hx => by
  rcases List.mem_append.1 hx with q | q
  ·
   exact wa.1.1 x q
  ·
   exact wb.1.1 x q)
 have tl := tidy_len (a ++ b)
 rw [List.length_append] at tl
 have tm : ∀ n s, Mem (tidyS (a ++ b)) n s ↔ Mem a n s ∨ Mem b n s := fun n s => (t.2 n s).trans mem_append
 have wt : WfC (tidyS (a ++ b)) := wf_sub t.1 (fun n s h => by
  rcases (tm n s).1 h with q | q
  ·
   exact wf_mem wa q
  ·
   exact wf_mem wb q)
 refine ⟨?_, chk_of_wf wt (by omega), tl, tm⟩
 unfold joinE
 rw [if_pos ⟨ha, hb⟩, bound_le (by omega)]
theorem has_iff {xs : List Sp} (h : chkS xs = 0) (n s : Int) : hasE xs n s = decide (Mem xs n s) := by
 unfold hasE
 rw [decide_eq_true h, Bool.true_and]
end
section
open Go.RowKit Go.Lib


def aheadP (a b : EvP) : Bool := hasE b.q a.n a.s && decide (chkEv a = 0) && decide (chkEv b = 0)
theorem hasx_any (w : World) (x y : EvT) (e f : EvP) (hx : EvR w x e) (hy : EvR w y f) (hs : EvSm f) :
  Calls Tryz.prog 72 #[.slice y.B y.bl y.bc, .agg #[.int .i64 x.n, .int .i64 x.s]] w fun r w' => r = .returned (.bool (hasE f.q e.n e.s)) ∧ Chg [] w w' := by
 have h1 := hx.n
 have h2 := hx.s
 have h3 := hy.bl
 have h4 := hy.B
 rw [h3] at h4 ⊢
 rw [h1, h2]
 exact has_any w y.B y.bc f.q e.n e.s h4 hs.2.2

set_option maxRecDepth 100000 in
theorem evahead_any (w : World) (x y : EvT) (e f : EvP) (hx : EvR w x e) (hy : EvR w y f) (hs : EvSm e) (ht : EvSm f) :
  Calls Tryz.prog 162 #[.agg #[.int .i64 x.n, .int .i64 x.s, .string x.p, .int .i64 x.k, .int .i64 x.m, .slice x.A x.l x.c, .slice x.B x.bl x.bc], .agg #[.int .i64 y.n, .int .i64 y.s, .string y.p, .int .i64 y.k, .int .i64 y.m, .slice y.A y.l y.c, .slice y.B y.bl y.bc]] w fun r w' => r = .returned (.bool (aheadP e f)) ∧ Chg [] w w' := by
 obtain ⟨w2, hw, hc, b0, b1⟩ := news2 w (.cells #[.int .i64 x.n, .int .i64 x.s, .string x.p, .int .i64 x.k, .int .i64 x.m, .slice x.A x.l x.c, .slice x.B x.bl x.bc] 40) (.cells #[.int .i64 y.n, .int .i64 y.s, .string y.p, .int .i64 y.k, .int .i64 y.m, .slice y.A y.l y.c, .slice y.B y.bl y.bc] 40)
 have W2 := h_ hw
 have C := h_ hc
 have HX := h_ (hx.chg hc)
 have HY := h_ (hy.chg hc)
 have HS := h_ hs
 have HT := h_ ht
 have B0 := h_ b0
 have B1 := h_ b1
 generalize hv : aheadP e f = v
 have HV := h_ hv
 clear hv hw hc hx hy hs ht b0 b1
 go_enter Tryz.func162, Tryz.ntmps162
 go_upto_region 1 with fail
 rw [← W2.out]
 generalize w.heap.size + 1 = g1 at *
 generalize w.heap.size = g0 at *
 obtain ⟨z0, z1, z2, z3, z4, z5, z6⟩ := ce7 B0.out
 obtain ⟨y0, y1, y2, y3, y4, y5, y6⟩ := ce7 B1.out
 go_wp2_with fail
 refine (hasx_any w2 x y e f HX.out HY.out HT.out).mono ?_
 rintro r w3 ⟨rfl, hc⟩
 clear z0 y0 z1 y1 z2 y2 z3 y3 z4 y4 z5 y5 z6 y6
 replace C := h_ (C.out.trans hc)
 replace HX := h_ (HX.out.chg hc)
 replace HY := h_ (HY.out.chg hc)
 replace B0 := h_ (hc.at_ B0.out (by simp))
 replace B1 := h_ (hc.at_ B1.out (by simp))
 clear hc
 rcases hh : hasE f.q e.n e.s with _ | _
 ·
  obtain rfl : v = false := by rw [← HV.out]; unfold aheadP; rw [hh]; rfl
  go_wp2; go_ret
  exact ⟨rfl, C.out⟩
 obtain ⟨z0, z1, z2, z3, z4, z5, z6⟩ := ce7 B0.out
 obtain ⟨y0, y1, y2, y3, y4, y5, y6⟩ := ce7 B1.out
 go_wp2_with fail
 refine (evcheck_any w3 x e HX.out HS.out).mono ?_
 rintro r w4 ⟨rfl, hc⟩
 clear z0 y0 z1 y1 z2 y2 z3 y3 z4 y4 z5 y5 z6 y6
 replace C := h_ (C.out.trans hc)
 replace HX := h_ (HX.out.chg hc)
 replace HY := h_ (HY.out.chg hc)
 replace B0 := h_ (hc.at_ B0.out (by simp))
 replace B1 := h_ (hc.at_ B1.out (by simp))
 clear hc
 rcases chkEv_two e with ha | ha
 rotate_left
 ·
  obtain rfl : v = false := by rw [← HV.out]; unfold aheadP; rw [ha]; simp
  rw [ha]
  go_wp2; go_ret
  exact ⟨rfl, C.out⟩
 rw [ha]
 obtain ⟨z0, z1, z2, z3, z4, z5, z6⟩ := ce7 B0.out
 obtain ⟨y0, y1, y2, y3, y4, y5, y6⟩ := ce7 B1.out
 go_wp2_with fail
 refine (evcheck_any w4 y f HY.out HT.out).mono ?_
 rintro r w5 ⟨rfl, hc⟩
 clear z0 y0 z1 y1 z2 y2 z3 y3 z4 y4 z5 y5 z6 y6
 replace C := h_ (C.out.trans hc)
 replace HX := h_ (HX.out.chg hc)
 replace HY := h_ (HY.out.chg hc)
 replace B0 := h_ (hc.at_ B0.out (by simp))
 replace B1 := h_ (hc.at_ B1.out (by simp))
 clear hc
 rcases chkEv_two f with hb | hb
 rotate_left
 ·
  obtain rfl : v = false := by rw [← HV.out]; unfold aheadP; rw [hb]; simp
  rw [hb]
  go_wp2; go_ret
  exact ⟨rfl, C.out⟩
 rw [hb]
 obtain rfl : v = true := by rw [← HV.out]; unfold aheadP; rw [hh, ha, hb]; rfl
 go_wp2; go_ret
 exact ⟨rfl, C.out⟩
end
section
open Go.RowKit Go.Lib

def ownS (e : EvP) : Sp := (e.n, e.s, e.s)
def okAll (es : List EvP) : Bool := es.all (fun e => decide (chkEv e = 0))
theorem okAll_iff {es : List EvP} : okAll es = true ↔ ∀ e ∈ es, chkEv e = 0 := by
 unfold okAll
 rw [List.all_eq_true]
 exact ⟨fun h e he => of_decide_eq_true (h e he), fun h e he => decide_eq_true (h e he)⟩
theorem chk_fine {e : EvP} (h : chkEv e = 0) : chkS e.q = 0 ∧ B3 (ownS e) ∧ lastL e.n e.q < e.s := by
 have o : EvOk e := by
  unfold chkEv at h
  split at h
  ·
   assumption
  ·
   exact absurd h (by decide)
 obtain ⟨o0, _, _, o3, o4⟩ := o
 have d : FineD e.n e.s := by
  by_cases f : FineD e.n e.s
  ·
   exact f
  ·
   have := chkD_odd f
   rw [show chkD e.n e.s = 0 from o0] at this
   exact absurd this (by decide)
 have q : chkS e.q = 0 := o3
 refine ⟨q, ?_, ?_⟩
 ·
  unfold FineD at d
  unfold B3 ownS
  simp only
  omega
 ·
  have := o4
  unfold evOk at this
  simp only [q, if_true] at this
  exact this
theorem okAll_take {es : List EvP} {k : Nat} {e : EvP} (h : es[k]? = some e) : okAll (es.take (k + 1)) = (okAll (es.take k) && decide (chkEv e = 0)) := by
 rw [List.take_add_one, h]
 simp [okAll]
theorem okAll_no {es : List EvP} {k : Nat} {e : EvP} (h : es[k]? = some e) (hc : chkEv e ≠ 0) : okAll es = false := by
 rcases q : okAll es with _ | _
 ·
  rfl
 ·
  exact absurd (okAll_iff.1 q e (List.mem_of_getElem? h)) hc
def OkTwo (a b : EvP) : Prop := ¬ (a.n = b.n ∧ a.s = b.s) ∧ (aheadP a b = true → withinE a.q b.q = true) ∧ (aheadP b a = true → withinE b.q a.q = true)
instance (a b : EvP) : Decidable (OkTwo a b) := by unfold OkTwo; exact inferInstance
theorem OkTwo.symm {a b : EvP} (h : OkTwo a b) : OkTwo b a := ⟨fun q => h.1 ⟨q.1.symm, q.2.symm⟩, h.2.2, h.2.1⟩
def closedE (es : List EvP) : Bool := okAll es && decide (es.Pairwise OkTwo)
def OneWay (a b : EvP) : Prop := ¬ (a.n = b.n ∧ a.s = b.s) ∧ (aheadP a b = true → withinE a.q b.q = true)
theorem pair_at {es : List EvP} : es.Pairwise OkTwo ↔ ∀ (i k : Nat) (a b : EvP), es[i]? = some a → es[k]? = some b → k ≠ i → OneWay a b := by
 rw [List.pairwise_iff_getElem]
 constructor
 ·
  intro h i k a b ha hb hne
  obtain ⟨hi, ea⟩ := List.getElem?_eq_some_iff.1 ha
  obtain ⟨hk, eb⟩ := List.getElem?_eq_some_iff.1 hb
  subst ea eb
  by_cases q : i < k
  ·
   have := h i k hi hk q
   exact ⟨this.1, this.2.1⟩
  ·
   have := (h k i hk hi (by omega)).symm
   exact ⟨this.1, this.2.1⟩
 ·
  intro h i k hi hk q
  have a := h i k _ _ (List.getElem?_eq_getElem hi) (List.getElem?_eq_getElem hk) (by omega)
  have b := h k i _ _ (List.getElem?_eq_getElem hk) (List.getElem?_eq_getElem hi) (by omega)
  exact ⟨a.1, a.2, b.2⟩
theorem closed_no_chk {es : List EvP} {k : Nat} {e : EvP} (h : es[k]? = some e) (hc : chkEv e ≠ 0) : closedE es = false := by
 unfold closedE
 rw [okAll_no h hc]
 rfl
theorem closed_no_two {es : List EvP} {i k : Nat} {a b : EvP} (ha : es[i]? = some a) (hb : es[k]? = some b) (hne : k ≠ i) (hc : ¬ OneWay a b) : closedE es = false := by
 unfold closedE
 rw [decide_eq_false (fun q => hc (pair_at.1 q i k a b ha hb hne)), Bool.and_false]
theorem closed_perm {es fs : List EvP} (h : es.Perm fs) : closedE es = closedE fs := by
 have h1 : okAll es = okAll fs := by
  have : okAll es = true ↔ okAll fs = true := by
   rw [okAll_iff, okAll_iff]
   exact ⟨fun q e he => q e (h.mem_iff.2 he), fun q e he => q e (h.mem_iff.1 he)⟩
  rcases a : okAll es with _ | _ <;> rcases b : okAll fs with _ | _ <;> simp_all
 have h2 : es.Pairwise OkTwo ↔ fs.Pairwise OkTwo := h.pairwise_iff (fun {a b} q => q.symm)
 unfold closedE
 rw [h1, decide_eq_decide.2 h2]
def bringsE (m : List EvP) (e : EvP) : Bool := e.q.all (fun s => m.all (fun x => !(decide (InS s x.n x.s)) || withinE x.q e.q))
theorem brings_iff {m : List EvP} {e : EvP} : bringsE m e = true ↔ ∀ x ∈ m, Mem e.q x.n x.s → withinE x.q e.q = true := by
 unfold bringsE
 rw [List.all_eq_true]
 constructor
 ·
  rintro h x hx ⟨s, hs, hi⟩
  have := List.all_eq_true.1 (h s hs) x hx
  rw [decide_eq_true hi] at this
  simpa using this
 ·
  intro h s hs
  rw [List.all_eq_true]
  intro x hx
  by_cases hi : InS s x.n x.s
  ·
   rw [h x hx ⟨s, hs, hi⟩, Bool.or_true]
  ·
   rw [decide_eq_false hi]
   rfl
theorem own_out {e : EvP} (h : chkEv e = 0) : ¬ Mem e.q e.n e.s := by
 intro q
 have c := chk_fine h
 have := last_ge (wf_of_chk c.1).1 q
 omega
theorem closed_brings {m : List EvP} (h : okAll m = true) (hd : m.Pairwise (fun a b => ¬ (a.n = b.n ∧ a.s = b.s))) : closedE m = m.all (fun e => bringsE m e) := by
 have ok := okAll_iff.1 h
 have key : closedE m = true ↔ m.all (fun e => bringsE m e) = true := by
  unfold closedE
  rw [h, Bool.true_and, decide_eq_true_iff, List.all_eq_true]
  constructor
  ·
   intro hp e he
   refine brings_iff.2 (fun x hx hm => ?_)
   obtain ⟨i, hi⟩ := List.getElem?_of_mem hx
   obtain ⟨k, hk⟩ := List.getElem?_of_mem he
   by_cases q : k = i
   ·
    subst q
    rw [hi] at hk
    cases hk
    exact absurd hm (own_out (ok _ hx))
   ·
    refine (pair_at.1 hp i k x e hi hk q).2 ?_
    unfold aheadP
    rw [has_iff (chk_fine (ok e he)).1, decide_eq_true hm, decide_eq_true (ok x hx), decide_eq_true (ok e he)]
    rfl
  ·
   intro hb
   have two : ∀ a ∈ m, ∀ b ∈ m, aheadP a b = true → withinE a.q b.q = true := fun a ha b hb' q => by
    unfold aheadP at q
    simp only [Bool.and_eq_true, decide_eq_true_eq] at q
    rw [has_iff (chk_fine (ok b hb')).1] at q
    exact brings_iff.1 (hb b hb') a ha (of_decide_eq_true q.1.1)
   refine hd.imp_of_mem (fun {a b} ha hb' q => ⟨q, two a ha b hb', two b hb' a ha⟩)
 rcases a : closedE m with _ | _ <;> rcases b : m.all (fun e => bringsE m e) with _ | _
 ·
  rfl
 ·
  rw [key.2 b] at a; exact absurd a (by decide)
 ·
  rw [key.1 a] at b; exact absurd b (by decide)
 ·
  rfl
theorem perm_zip {α β : Type} {m xs : List α} (h : m.Perm xs) : ∀ es : List β, es.length = xs.length → ∃ es' : List β, es'.length = m.length ∧ (m.zip es').Perm (xs.zip es) := by
 induction h with
 | nil => intro es _; exact ⟨[], rfl, by simp⟩
 | cons x h ih =>
  intro es he
  match es, he with
  | e :: es, he =>
   obtain ⟨f, hf, hp⟩ := ih es (by simpa using he)
   exact ⟨e :: f, by simp [hf], by simpa using hp.cons (x, e)⟩
 | swap x y l =>
  intro es he
  match es, he with
  | a :: b :: es, he => exact ⟨b :: a :: es, by simp at he ⊢; omega, by simpa using List.Perm.swap (x, a) (y, b) (l.zip es)⟩
 | trans h1 h2 i1 i2 =>
  intro es he
  obtain ⟨f, hf, hp⟩ := i2 es he
  obtain ⟨g, hg, hq⟩ := i1 f hf
  exact ⟨g, hg, hq.trans hp⟩
end
section
open Go.RowKit

theorem Chg.both {w w1 w2 : World} {S : List Nat} (h : Chg [] w w1) (k : Chg S w1 w2) (hs : ∀ i ∈ S, w.heap.size ≤ i) : Chg [] w w2 :=
 h.trans' k fun i hi => .inr (hs i hi)

def Ws (w w' : World) (b : Nat) (xs : List UInt8) (e : Int) : Prop := ∃ g, Wrt w' b g xs e ∧ w.heap.size ≤ b ∧ w.heap.size ≤ g ∧ Chg [] w w'
theorem Ws.chg {w w' : World} {b : Nat} {xs : List UInt8} {e : Int} (h : Ws w w' b xs e) : Chg [] w w' := by obtain ⟨_, _, _, _, h⟩ := h; exact h
theorem ws_between {w w1 w2 : World} {b g : Nat} {xs : List UInt8} {e : Int} (h2 : w.heap.size ≤ b) (h3 : w.heap.size ≤ g) (h4 : Chg [] w w1) (h : Between w1 w2 b g xs e) : Ws w w2 b xs e := by
 obtain ⟨g', q1, q2, q3⟩ := h
 have := h4.size
 refine ⟨g', q1, h2, by omega, h4.both q2 ?_⟩
 intro i hi
 simp at hi
 omega
theorem ws_new (w w1 : World) (hc : Chg [] w w1) : Calls Tryz.prog 86 #[] w1 fun r w' => ∃ b, r = .returned (.pointer (some ⟨b, 0, none⟩)) ∧ Ws w w' b [] 0 :=
 (new_any w1).mono fun _ _ ⟨h1, h2, h3⟩ => ⟨_, h1, _, h2, hc.size, hc.size, hc.trans h3⟩
theorem ws_num (w w1 : World) (b : Nat) (xs : List UInt8) (e x : Int) (h : Ws w w1 b xs e) (hlen : xs.length ≤ 1048576) :
  Calls Tryz.prog 87 #[.pointer (some ⟨b, 0, none⟩), .int .i64 x] w1 fun r w' => r = .returned (.tuple #[]) ∧ Ws w w' b (wNum xs e x).1 (wNum xs e x).2 := by
 obtain ⟨g, h1, h2, h3, h4⟩ := h
 exact (wnum_any w1 b g xs e x h1 hlen).mono fun _ _ ⟨q1, q2⟩ => ⟨q1, ws_between h2 h3 h4 q2⟩
theorem ws_raw (w w1 : World) (b : Nat) (xs : List UInt8) (e : Int) (B : Option Addr) (m d : Nat) (ys : List UInt8) (h : Ws w w1 b xs e) (hlen : xs.length ≤ 1048576) (hm : m ≤ 140737488351232) (hr : Bs w B m ys) :
  Calls Tryz.prog 88 #[.pointer (some ⟨b, 0, none⟩), .slice B m d] w1 fun r w' => r = .returned (.tuple #[]) ∧ Ws w w' b (wRaw xs e ys).1 (wRaw xs e ys).2 := by
 obtain ⟨g, h1, h2, h3, h4⟩ := h
 exact (wraw_any w1 b g xs e B m d ys h1 hlen hm (hr.chg h4 (by simp)) (hr.apart h2 h3)).mono fun _ _ ⟨q1, q2⟩ => ⟨q1, ws_between h2 h3 h4 q2⟩
theorem Fresh.since {w w1 w2 : World} {A : Option Addr} {c : Nat} {ys : List UInt8} (hc : Chg [] w w1) (h : Fresh w1 w2 A c ys) : Fresh w w2 A c ys :=
 ⟨h.1, fun a e => by have := h.2.1 a e; have := hc.size; omega, hc.trans h.2.2⟩
theorem ws_out (w w1 : World) (b : Nat) (xs : List UInt8) (e : Int) (h : Ws w w1 b xs e) (hlen : xs.length ≤ 1048576) :
  Calls Tryz.prog 89 #[.pointer (some ⟨b, 0, none⟩)] w1 fun r w' => ∃ A c, r = .returned (.tuple #[.slice A (outs xs e).length c, .int .i64 e]) ∧ Fresh w w' A c (outs xs e) := by
 obtain ⟨g, h1, h2, h3, h4⟩ := h
 exact (wout_any w1 b g xs e h1 hlen).mono fun _ _ ⟨A, c, q1, q2⟩ => ⟨A, c, q1, q2.since h4⟩

def Rs (w w' : World) (b : Nat) (xs : List UInt8) (p : Nat) (fe fa : Int) : Prop := ∃ g, Rdr w' b g xs p fe fa ∧ w.heap.size ≤ b ∧ w.heap.size ≤ g ∧ Chg [] w w' ∧ p ≤ xs.length ∧ xs.length ≤ 140737488351232
theorem Rs.chg {w w' : World} {b : Nat} {xs : List UInt8} {p : Nat} {fe fa : Int} (h : Rs w w' b xs p fe fa) : Chg [] w w' := by obtain ⟨_, _, _, _, h, _⟩ := h; exact h
theorem rs_open (w w1 : World) (B : Option Addr) (m d : Nat) (ys : List UInt8) (hc : Chg [] w w1) (hr : Bs w B m ys) (hm : m ≤ 140737488351232) :
  Calls Tryz.prog 90 #[.slice B m d] w1 fun r w' => ∃ b, r = .returned (.pointer (some ⟨b, 0, none⟩)) ∧ Rs w w' b ys 0 0 0 := by
 have hs := hc.size
 have hl := hr.len
 exact (open_any w1 B m d ys (hr.chg hc (by simp)) hm).mono fun _ _ ⟨b, g, h1, h2, h3, h4, h5⟩ => ⟨b, h1, g, h2, by omega, by omega, hc.trans h3, by omega, by omega⟩
theorem rs_num (w w1 : World) (b : Nat) (xs : List UInt8) (p : Nat) (fe fa low high : Int) (h : Rs w w1 b xs p fe fa) :
  Calls Tryz.prog 91 #[.pointer (some ⟨b, 0, none⟩), .int .i64 low, .int .i64 high] w1 fun r w' => r = .returned (.int .i64 (rNum xs p fe fa low high).1) ∧ Rs w w' b xs (rNum xs p fe fa low high).2.1 (rNum xs p fe fa low high).2.2.1 (rNum xs p fe fa low high).2.2.2 ∧ Chg [b] w1 w' := by
 obtain ⟨g, h1, h2, h3, h4, h5, h6⟩ := h
 exact (rnum_any w1 b g xs p fe fa low high h1 h5 h6).mono fun _ _ ⟨q1, q2, q3⟩ => ⟨q1, ⟨g, q2, h2, h3, h4.both q3 (by simpa using h2), rNum_le h5, h6⟩, q3⟩
theorem rs_raw (w w1 : World) (b : Nat) (xs : List UInt8) (p : Nat) (fe fa most : Int) (h : Rs w w1 b xs p fe fa) :
  Calls Tryz.prog 92 #[.pointer (some ⟨b, 0, none⟩), .int .i64 most] w1 fun r w' => ∃ A c, r = .returned (.slice A (rRaw xs p fe fa most).1.length c) ∧ OwnB w' A c (rRaw xs p fe fa most).1 ∧ (∀ a, A = some a → w1.heap.size ≤ a.block) ∧ Rs w w' b xs (rRaw xs p fe fa most).2.1 (rRaw xs p fe fa most).2.2.1 (rRaw xs p fe fa most).2.2.2 ∧ Chg [b] w1 w' := by
 obtain ⟨g, h1, h2, h3, h4, h5, h6⟩ := h
 exact (rraw_any w1 b g xs p fe fa most h1 h5 h6).mono fun _ _ ⟨A, c, q1, q2, q3, q4, q5⟩ => ⟨A, c, q1, q2, q3, ⟨g, q4, h2, h3, h4.both q5 (by simpa using h2), (rRaw_le h5).2, h6⟩, q5⟩
def endR (xs : List UInt8) (p : Nat) (fe fa : Int) : Int × Int := if fe = 0 ∧ p < xs.length then (4, p) else (fe, fa)
theorem rs_end (w w1 : World) (b : Nat) (xs : List UInt8) (p : Nat) (fe fa : Int) (h : Rs w w1 b xs p fe fa) :
  Calls Tryz.prog 93 #[.pointer (some ⟨b, 0, none⟩)] w1 fun r w' => r = .returned (.agg #[.int .i64 (endR xs p fe fa).1, .int .i64 (endR xs p fe fa).2]) ∧ Chg [] w1 w' := by
 obtain ⟨g, h1, h2, h3, h4, h5, h6⟩ := h
 unfold endR
 by_cases he : fe = 0 ∧ p < xs.length
 ·
  rw [if_pos he]
  obtain ⟨rfl, hp⟩ := he
  exact rend_left w1 b g xs p fa h1 hp h6
 ·
  rw [if_neg he]
  exact rend_done w1 b g xs p fe fa h1 (fun e => by omega) h6
end
section
open Go.RowKit

theorem rNum_calm {xs : List UInt8} {p : Nat} {fe fa low high : Int} (he : (rNum xs p fe fa low high).2.2.1 = 0) : fe = 0 ∧ (rNum xs p fe fa low high).2.2.2 = fa := by
 unfold rNum at he ⊢
 split at he
 ·
  rename_i h; exact absurd he h
 ·
  rename_i h
  have hz : fe = 0 := by simpa using h
  rw [if_neg h]
  cases hn : numAt xs p low high with
  | error x => obtain ⟨f, q⟩ := x; simp only [hn] at he; have := numAt_err hn; omega
  | ok x => exact ⟨hz, rfl⟩
theorem rRaw_calm {xs : List UInt8} {p : Nat} {fe fa most : Int} (he : (rRaw xs p fe fa most).2.2.1 = 0) : fe = 0 ∧ (rRaw xs p fe fa most).2.2.2 = fa := by
 unfold rRaw at he ⊢
 split at he
 ·
  rename_i h; exact absurd he h
 ·
  rename_i h
  have hz : fe = 0 := by simpa using h
  rw [if_neg h]
  cases hn : numAt xs p 0 4611686018427387903 with
  | error x => obtain ⟨f, q⟩ := x; simp only [hn] at he; have := numAt_err hn; omega
  | ok x =>
   obtain ⟨n, q⟩ := x
   simp only [hn] at he ⊢
   split at he
   ·
    simp at he
   ·
    rename_i h1
    rw [if_neg h1]
    split at he
    ·
     simp at he
    ·
     rename_i h2; rw [if_neg h2]; exact ⟨hz, rfl⟩
theorem endR_calm {xs : List UInt8} {p : Nat} {fe fa : Int} (he : (endR xs p fe fa).1 = 0) : fe = 0 ∧ (endR xs p fe fa).2 = fa ∧ xs.length ≤ p := by
 unfold endR at he ⊢
 split at he
 ·
  simp at he
 ·
  rename_i h
  rw [if_neg h]
  exact ⟨he, rfl, by omega⟩
end
section
open Go.RowKit

theorem longeff_any (w : World) (k m : Int) (A : Option Addr) (n c : Nat) (_hn : n ≤ 140737488351232) :
  Calls Tryz.prog 26 #[.agg #[.int .i64 k, .int .i64 m, .slice A n c]] w fun e w' => e = .returned (.bool (decide ((1200 : Int) < n))) ∧ Chg [] w w' := by
 go_enter Tryz.func26, Tryz.ntmps26
 go_wp2; go_ret
 exact ⟨rfl, (Chg.refl _ _).alloc _⟩
end
section
open Go.RowKit Go.Lib


def bigE (x : EvT) : Prop := 100 < x.p.size ∨ 1200 < x.l ∨ 100 < x.bl
instance (x : EvT) : Decidable (bigE x) := by unfold bigE; exact inferInstance
def longE (xs : List EvT) (most : Nat) : Bool := (xs.take (most + 1)).any (fun x => decide (bigE x)) || decide (most < xs.length)
theorem longE_no {xs : List EvT} {most : Nat} (h : longE xs most = false) : xs.length ≤ most ∧ ∀ x ∈ xs, ¬ bigE x := by
 unfold longE at h
 rw [Bool.or_eq_false_iff, decide_eq_false_iff_not, List.any_eq_false] at h
 refine ⟨by omega, fun x hx => ?_⟩
 have := h.1 x (by rw [List.take_of_length_le (by omega)]; exact hx)
 simpa using this
theorem longE_yes {xs : List EvT} {most k : Nat} {x : EvT} (hx : xs[k]? = some x) (hk : k ≤ most) (hb : bigE x) : longE xs most = true := by
 unfold longE
 rw [Bool.or_eq_true, List.any_eq_true]
 refine .inl ⟨x, ?_, decide_eq_true hb⟩
 have hl := (List.getElem?_eq_some_iff.1 hx).1
 exact List.mem_of_getElem? (i := k) (by rw [List.getElem?_take, if_pos (by omega)]; exact hx)
set_option maxRecDepth 100000 in
theorem longevs_any (w : World) (A : Option Addr) (c : Nat) (xs : List EvT) (most : Nat) (h : RdK evTy w A xs.length xs) (hn : xs.length ≤ 140737488351232) (hm : most ≤ 1000) (hs : ∀ x ∈ xs, x.l ≤ 140737488351232) :
  Calls Tryz.prog 5 #[.slice A xs.length c, .int .i64 (most : Int)] w fun r w' => r = .returned (.bool (longE xs most)) ∧ Chg [] w w' := by
 have H := h_ h
 have HN := h_ hn
 have HM := h_ hm
 have HS := h_ hs
 clear h hn hm hs
 generalize hv : longE xs most = v
 have HV := h_ hv
 clear hv
 go_enter Tryz.func5, Tryz.ntmps5
 go_wp2
 go_loopw [5] (fun v5 wr => ∃ k : Nat, k ≤ xs.length ∧ k ≤ most + 1 ∧ v5 = .int .i64 k ∧ Hid (∀ x ∈ xs.take k, ¬ bigE x) ∧ Hid (Chg [] w wr)) (fun v5 _ => xs.length - (RowKit.intOf v5).toNat)
 case atStart => exact ⟨0, Nat.zero_le _, Nat.zero_le _, rfl, h_ (by simp), Chg.refl _ _⟩
 case round =>
  obtain ⟨k, hk, hk2, rfl, NB, RC⟩ := hrel
  have i0 : (0 : Int) ≤ (k : Int) := by omega
  by_cases hlt : k < xs.length
  ·
   have i1 : (k : Int) < (xs.length : Int) := by omega
   by_cases hle : k ≤ most
   ·
    have i2 : (k : Int) ≤ (most : Int) := by omega
    have i3 : IntKind.i64.wrap ((k : Int) + 1) = (k : Int) + 1 := IntWalk.i64_in _ (by have := HN.out; omega)
    obtain ⟨x, hx⟩ : ∃ x, xs[k]? = some x := ⟨_, List.getElem?_eq_getElem hlt⟩
    obtain ⟨g, o, eA, _⟩ := H.out.line (by omega)
    subst eA
    obtain ⟨z0, z1, z2, z3, z4, z5, z6⟩ := evCells (H.out.chg RC.out (by simp)) hx
    have LY : Hid (bigE x → v = true) := h_ (fun q => by rw [← HV.out]; exact longE_yes hx hle q)
    have NX : Hid (¬ bigE x → ∀ y ∈ xs.take (k + 1), ¬ bigE y) := h_ (fun q y hy => by
     rw [List.take_add_one, hx] at hy
     rcases List.mem_append.1 hy with r | r
     ·
      exact NB.out y r
     ·
      simp at r; subst r; exact q)
    have XS := h_ (HS.out x (List.mem_of_getElem? hx))
    clear hx
    by_cases b1 : 100 < x.p.size
    ·
     have j1 : (100 : Int) < (x.p.size : Int) := by omega
     obtain rfl := LY.out (.inl b1)
     clear LY NX b1; go_wp2; go_ret
     exact ⟨rfl, RC.out⟩
    have j1 : ¬ (100 : Int) < (x.p.size : Int) := by omega
    go_wp2_with fail
    refine (longeff_any wr x.k x.m x.A x.l x.c XS.out).mono ?_
    rintro r w2 ⟨rfl, hc⟩
    have C2 := h_ (RC.out.trans hc)
    have y6 := hc.cell z6 (by simp)
    clear hc z0 z1 z2 z3 z4 z5 z6 j1
    by_cases b2 : 1200 < x.l
    ·
     rw [decide_eq_true (show (1200 : Int) < (x.l : Int) by omega)]
     obtain rfl := LY.out (.inr (.inl b2))
     clear LY NX b1 b2 y6; go_wp2; go_ret
     exact ⟨rfl, C2.out⟩
    rw [decide_eq_false (show ¬ (1200 : Int) < (x.l : Int) by omega)]
    by_cases b3 : 100 < x.bl
    ·
     have j3 : (100 : Int) < (x.bl : Int) := by omega
     obtain rfl := LY.out (.inr (.inr b3))
     clear LY NX b1 b2 b3; go_wp2; go_ret
     exact ⟨rfl, C2.out⟩
    have j3 : ¬ (100 : Int) < (x.bl : Int) := by omega
    have NN := h_ (NX.out (fun q => by unfold bigE at q; omega))
    clear LY NX b1 b2 b3; go_wp2; go_round
    case rel => exact ⟨k + 1, by omega, by omega, by go_num, NN, C2.out⟩
    case measure => simp [RowKit.intOf]; omega
   ·
    have i2 : ¬ (k : Int) ≤ (most : Int) := by omega
    have i4 : (most : Int) < (xs.length : Int) := by omega
    obtain rfl : v = true := by rw [← HV.out]; unfold longE; rw [decide_eq_true (show most < xs.length by omega)]; simp
    clear HV; go_wp2; go_ret
    exact ⟨rfl, RC.out⟩
  ·
   obtain rfl : k = xs.length := by omega
   have i1 : ¬ (xs.length : Int) < (xs.length : Int) := by omega
   by_cases hle : most < xs.length
   ·
    have i4 : (most : Int) < (xs.length : Int) := by omega
    obtain rfl : v = true := by rw [← HV.out]; unfold longE; rw [decide_eq_true hle]; simp
    clear HV; go_wp2; go_ret
    exact ⟨rfl, RC.out⟩
   ·
    have i4 : ¬ (most : Int) < (xs.length : Int) := by omega
    obtain rfl : v = false := by
     rw [← HV.out]
     unfold longE
     rw [decide_eq_false hle, Bool.or_false, List.any_eq_false]
     intro x hx
     have q := NB.out x (by rw [List.take_length]; exact List.mem_of_mem_take hx)
     simpa using q
    clear HV; go_wp2; go_ret
    exact ⟨rfl, RC.out⟩
end
section
open Go.RowKit Go.Lib


def cmpEd (x : EvT) (n s : Int) : Int := cmpD x.n x.s n s
theorem cmpEd_neg {x : EvT} {n s : Int} : cmpEd x n s < 0 ↔ LtD x.n x.s n s := cmpD_lt
theorem cmpEd_zero {x : EvT} {n s : Int} : cmpEd x n s = 0 ↔ x.n = n ∧ x.s = s := by
 unfold cmpEd
 rw [cmpD_is]
 by_cases h1 : LtD x.n x.s n s
 ·
  rw [if_pos h1]
  unfold LtD at h1
  exact ⟨fun h => absurd h (by decide), fun h => absurd h1 (by omega)⟩
 ·
  rw [if_neg h1]
  by_cases h2 : LtD n s x.n x.s
  ·
   rw [if_pos h2]
   unfold LtD at h2
   exact ⟨fun h => absurd h (by decide), fun h => absurd h2 (by omega)⟩
  ·
   rw [if_neg h2]
   unfold LtD at h1 h2
   exact ⟨fun _ => by omega, fun _ => rfl⟩
def UpE (xs : List EvT) : Prop := xs.Pairwise (fun x y => ¬ LtD y.n y.s x.n x.s)
theorem up_at {l : List EvT} (h : UpE l) {p q : Nat} {x y : EvT} (hx : l[p]? = some x) (hy : l[q]? = some y) (hl : p < q) : ¬ LtD y.n y.s x.n x.s := by
 obtain ⟨l1, e1⟩ := List.getElem?_eq_some_iff.1 hx
 obtain ⟨l2, e2⟩ := List.getElem?_eq_some_iff.1 hy
 have := List.pairwise_iff_getElem.1 h p q l1 l2 hl
 rw [e1, e2] at this
 exact this
def LoE (xs : List EvT) (n s : Int) (i : Nat) : Prop := ∀ p x, xs[p]? = some x → p < i → LtD x.n x.s n s
def HiE (xs : List EvT) (n s : Int) (j : Nat) : Prop := ∀ p x, xs[p]? = some x → j ≤ p → ¬ LtD x.n x.s n s
theorem loE_next {xs : List EvT} {n s : Int} (hn : UpE xs) {h : Nat} {x : EvT} (hx : xs[h]? = some x) (hc : cmpEd x n s < 0) : LoE xs n s (h + 1) := by
 intro p y hy hp
 rw [cmpEd_neg] at hc
 by_cases e : p = h
 ·
  subst e; rw [hx] at hy; cases hy; exact hc
 ·
  have a := up_at hn hy hx (by omega)
  unfold LtD at *
  omega
theorem hiE_next {xs : List EvT} {n s : Int} (hn : UpE xs) {h : Nat} {x : EvT} (hx : xs[h]? = some x) (hc : ¬ cmpEd x n s < 0) : HiE xs n s h := by
 intro p y hy hp
 rw [cmpEd_neg] at hc
 by_cases e : p = h
 ·
  subst e; rw [hx] at hy; cases hy; exact hc
 ·
  have a := up_at hn hx hy (by omega)
  unfold LtD at *
  omega
def inE (xs : List EvT) (n s : Int) : Bool := xs.any (fun x => decide (x.n = n ∧ x.s = s))
theorem inE_yes {xs : List EvT} {n s : Int} {i : Nat} {x : EvT} (hx : xs[i]? = some x) (hc : cmpEd x n s = 0) : inE xs n s = true := by
 unfold inE
 rw [List.any_eq_true]
 exact ⟨x, List.mem_of_getElem? hx, decide_eq_true (cmpEd_zero.1 hc)⟩
theorem inE_no {xs : List EvT} {n s : Int} (hn : UpE xs) {i : Nat} (hl : LoE xs n s i) (hh : HiE xs n s i) (hx : ∀ x, xs[i]? = some x → cmpEd x n s ≠ 0) : inE xs n s = false := by
 rcases q : inE xs n s with _ | _
 ·
  rfl
 ·
  unfold inE at q
  rw [List.any_eq_true] at q
  obtain ⟨y, hy, hi⟩ := q
  have hi := of_decide_eq_true hi
  obtain ⟨q, hq, rfl⟩ := List.getElem_of_mem hy
  have hz : cmpEd xs[q] n s = 0 := cmpEd_zero.2 hi
  have hqe := List.getElem?_eq_getElem hq
  rcases Nat.lt_trichotomy q i with h | h | h
  ·
   have := hl q _ hqe h
   unfold LtD at this
   omega
  ·
   subst h; exact absurd hz (hx _ hqe)
  ·
   have hie := List.getElem?_eq_getElem (show i < xs.length by omega)
   have a := up_at hn hie hqe h
   have b := hh i _ hie (Nat.le_refl _)
   have c := hx _ hie
   have d : ¬ (xs[i].n = n ∧ xs[i].s = s) := fun e => c (cmpEd_zero.2 e)
   unfold LtD at a b
   omega
end
end Go.Proofs.YtehmchdhlhchjaaGreatDoor
