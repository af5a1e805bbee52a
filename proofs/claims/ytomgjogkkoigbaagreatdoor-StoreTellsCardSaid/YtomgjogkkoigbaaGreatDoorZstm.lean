/- The document's without. Sets of dots as lists of spans: how many dots they have, what is the last one, what is joined, left, within. Plain. What is joined of spans in order: purely. event.Ahead. Which past events make, and whether they are closed: purely. A writer, a reader that were made since a world w, and all that was there is as it was: the calls in this form. Package effect: compare, Same, Less, Size, Bytes. Package effect: Read. The statements' own functions over effects: SameEffect, LongEffect, of, file, awake. The kit's LongEvents. A row of nil has no elements. A row that the library has sorted, or cleared from some place on. slices.SortFunc at structs under a 'cmp' that need not part any two: what was there, in order. -/
import Derived.Test.YtomgjogkkoigbaaGreatDoorZstl
import Derived.Deep.Cut
import Derived.Test.YtomgjogkkoigbaaGreatDoorZstj
import Derived.Test.YtomgjogkkoigbaaGreatDoorZstd
import Derived.Test.YtomgjogkkoigbaaGreatDoorZstb
import Derived.Test.YtomgjogkkoigbaaGreatDoorZstc
import Derived.Deep.RegionHeld3
import Derived.Deep.CutRange
import Derived.Test.YtomgjogkkoigbaaGreatDoorZsta
import Derived.Shelf.SlSortCmp.NoneTotal
import Derived.Lib.SlicesCompact
import Derived.Lib.SliceRun
import Derived.Test.YtomgjogkkoigbaaGreatDoorZsti
set_option linter.unusedSimpArgs false
set_option linter.unusedVariables false
namespace Go.Proofs.YtomgjogkkoigbaaGreatDoor
section

theorem lastM_from (node : Int) : ∀ (xs : List Sp) (k : Int), k ≤ xs.foldl (fun n x => if x.1 = node then max n x.2.2 else n) k ∧ ∀ x ∈ xs, x.1 = node → x.2.2 ≤ xs.foldl (fun n x => if x.1 = node then max n x.2.2 else n) k
 | [], k => ⟨Int.le_refl _, by simp⟩
 | x :: xs, k => by
  obtain ⟨h1, h2⟩ := lastM_from node xs (if x.1 = node then max k x.2.2 else k)
  rw [List.foldl_cons]
  by_cases q : x.1 = node
  ·
   rw [if_pos q] at h1 h2 ⊢
   refine ⟨by omega, fun y hy e => ?_⟩
   rcases List.mem_cons.1 hy with rfl | hy
   ·
    omega
   ·
    exact h2 y hy e
  ·
   rw [if_neg q] at h1 h2 ⊢
   refine ⟨by omega, fun y hy e => ?_⟩
   rcases List.mem_cons.1 hy with rfl | hy
   ·
    exact absurd e q
   ·
    exact h2 y hy e
theorem last_ge {xs : List Sp} (h : WfC xs) {n s : Int} (hm : Mem xs n s) : s ≤ lastL n xs := by
 rw [← last_all n h]
 obtain ⟨x, hx, e, _, l⟩ := hm
 exact Int.le_trans l ((lastM_from n xs 0).2 x hx e)
theorem wf_sub {m : List Sp} (h : Norm m) (hb : ∀ n s, Mem m n s → 1 ≤ n ∧ n ≤ 200 ∧ 1 ≤ s ∧ s ≤ 2147483647) : WfC m :=
 ⟨h, fun x hx => by
  have o := h.1 x hx
  unfold SpOk at o
  have a := hb x.1 x.2.1 ⟨x, hx, rfl, Int.le_refl _, o⟩
  have b := hb x.1 x.2.2 ⟨x, hx, rfl, o, Int.le_refl _⟩
  omega⟩
theorem push_len (out : List Sp) (z : Sp) : (pushP out z).length ≤ out.length + 1 := by
 unfold pushP
 split <;> (try split) <;> simp <;> omega
theorem fold_len : ∀ (zs out : List Sp), (zs.foldl pushP out).length ≤ out.length + zs.length
 | [], out => by simp
 | z :: zs, out => by
  have h1 := fold_len zs (pushP out z)
  have h2 := push_len out z
  rw [List.foldl_cons, List.length_cons]
  omega
theorem tidy_len (l : List Sp) : (tidyS l).length ≤ l.length := by
 have := fold_len (riseS l) []
 rw [(rise_props l).2.2] at this
 simpa [tidyS] using this
theorem bound_le {l : List Sp} (h : l.length ≤ 4000) : boundP l = (0, l) := by unfold boundP; rw [if_neg (by omega)]
theorem has_iff {xs : List Sp} (h : chkS xs = 0) (n s : Int) : hasE xs n s = decide (Mem xs n s) := by
 unfold hasE
 rw [decide_eq_true h, Bool.true_and]
def aloneP (d : Int × Int) : Sp := (d.1, d.2, d.2)
def fineL (l : List (Int × Int)) : Bool := l.all (fun d => decide (FineQ d.1 d.2))
theorem fineL_iff {l : List (Int × Int)} : fineL l = true ↔ ∀ d ∈ l, FineQ d.1 d.2 := by
 unfold fineL
 rw [List.all_eq_true]
 exact ⟨fun h d hd => of_decide_eq_true (h d hd), fun h d hd => decide_eq_true (h d hd)⟩
def ofE (l : List (Int × Int)) : Int × List Sp := if fineL l = true then boundP (tidyS (l.map aloneP)) else (2, [])
theorem alone_mem {l : List (Int × Int)} {n s : Int} : Mem (l.map aloneP) n s ↔ (n, s) ∈ l := by
 unfold Mem
 constructor
 ·
  rintro ⟨x, hx, h1, h2, h3⟩
  obtain ⟨d, hd, rfl⟩ := List.mem_map.1 hx
  have e : d = (n, s) := Prod.ext h1 (by have : d.2 ≤ s := h2; have : s ≤ d.2 := h3; show d.2 = s; omega)
  exact e ▸ hd
 ·
  intro h
  exact ⟨(n, s, s), List.mem_map.2 ⟨(n, s), h, rfl⟩, rfl, Int.le_refl _, Int.le_refl _⟩
theorem alone_ok (l : List (Int × Int)) : ∀ x ∈ l.map aloneP, SpOk x := by
 intro x hx
 obtain ⟨d, hd, rfl⟩ := List.mem_map.1 hx
 exact Int.le_refl _
theorem alone_B3 {l : List (Int × Int)} (h : fineL l = true) : ∀ x ∈ l.map aloneP, B3 x := by
 intro x hx
 obtain ⟨d, hd, rfl⟩ := List.mem_map.1 hx
 have := fineL_iff.1 h d hd
 unfold FineQ at this
 unfold B3 aloneP
 simp only
 omega
theorem of_ok {l : List (Int × Int)} (h : fineL l = true) (hl : l.length ≤ 4000) : ofE l = (0, tidyS (l.map aloneP)) ∧ chkS (tidyS (l.map aloneP)) = 0 ∧ (tidyS (l.map aloneP)).length ≤ l.length ∧ ∀ n s, Mem (tidyS (l.map aloneP)) n s ↔ (n, s) ∈ l := by
 have t := tidy_norm (alone_ok l)
 have tl := tidy_len (l.map aloneP)
 rw [List.length_map] at tl
 have tm : ∀ n s, Mem (tidyS (l.map aloneP)) n s ↔ (n, s) ∈ l := fun n s => (t.2 n s).trans alone_mem
 have wt : WfC (tidyS (l.map aloneP)) := wf_sub t.1 (fun n s q => by
  have := fineL_iff.1 h _ ((tm n s).1 q)
  unfold FineQ at this
  simpa using this)
 refine ⟨?_, chk_of_wf wt (by omega), tl, tm⟩
 unfold ofE
 rw [if_pos h, bound_le (by omega)]
theorem of_sorted {l m : List (Int × Int)} (hm : ∀ d, d ∈ m ↔ d ∈ l) (hs : m.Pairwise (fun x y => x.1 < y.1 ∨ x.1 = y.1 ∧ x.2 < y.2)) : (m.map aloneP).foldl pushP [] = tidyS (l.map aloneP) := by
 have t := tidy_norm (alone_ok l)
 have f := fold_norm (zs := m.map aloneP) (out := []) norm_nil (alone_ok m) (List.pairwise_map.2 (hs.imp (fun {x y} q => by unfold Le aloneP; simp only; omega))) (fun y z h => by simp at h)
 refine norm_ext f.1 t.1 (fun n s => ?_)
 rw [f.2 n s, t.2 n s, alone_mem, alone_mem, hm]
 exact ⟨fun q => q.resolve_left mem_nil, .inr⟩
end
section
open Go.RowKit Go.Lib


def aheadP (a b : EvP) : Bool := hasE b.q a.n a.s && decide (chkEv a = 0) && decide (chkEv b = 0)
theorem hasx_any (w : World) (x y : EvT) (e f : EvP) (hx : EvR w x e) (hy : EvR w y f) (hs : EvSm f) :
  Calls Tryz.prog 65 #[.slice y.B y.bl y.bc, .agg #[.int .i64 x.n, .int .i64 x.s]] w fun r w' => r = .returned (.bool (hasE f.q e.n e.s)) ∧ Chg [] w w' := by
 have h1 := hx.n
 have h2 := hx.s
 have h3 := hy.bl
 have h4 := hy.B
 rw [h3] at h4 ⊢
 rw [h1, h2]
 exact has_any w y.B y.bc f.q e.n e.s h4 hs.2.2

set_option maxRecDepth 100000 in
set_option maxHeartbeats 8000000 in
theorem evahead_any (w : World) (x y : EvT) (e f : EvP) (hx : EvR w x e) (hy : EvR w y f) (hs : EvSm e) (ht : EvSm f) :
  Calls Tryz.prog 40 #[.agg #[.int .i64 x.n, .int .i64 x.s, .string x.p, .int .i64 x.k, .int .i64 x.m, .slice x.A x.l x.c, .slice x.B x.bl x.bc], .agg #[.int .i64 y.n, .int .i64 y.s, .string y.p, .int .i64 y.k, .int .i64 y.m, .slice y.A y.l y.c, .slice y.B y.bl y.bc]] w fun r w' => r = .returned (.bool (aheadP e f)) ∧ Chg [] w w' := by
 obtain ⟨w2, hw, hc, b0, b1⟩ := news2 w (.cells #[.int .i64 x.n, .int .i64 x.s, .string x.p, .int .i64 x.k, .int .i64 x.m, .slice x.A x.l x.c, .slice x.B x.bl x.bc] 30) (.cells #[.int .i64 y.n, .int .i64 y.s, .string y.p, .int .i64 y.k, .int .i64 y.m, .slice y.A y.l y.c, .slice y.B y.bl y.bc] 30)
 have W2 := Lib.hid hw
 have C := Lib.hid hc
 have HX := Lib.hid (hx.chg hc)
 have HY := Lib.hid (hy.chg hc)
 have HS := Lib.hid hs
 have HT := Lib.hid ht
 have B0 := Lib.hid b0
 have B1 := Lib.hid b1
 generalize hv : aheadP e f = v
 have HV := Lib.hid hv
 clear hv hw hc hx hy hs ht b0 b1
 go_enter Tryz.func40, Tryz.ntmps40
 go_upto_region 1 with fail
 rw [← W2.out]
 generalize w.heap.size + 1 = g1 at *
 generalize w.heap.size = g0 at *
 have z0 := cell_of B0.out 0
 have z1 := cell_of B0.out 1
 have z2 := cell_of B0.out 2
 have z3 := cell_of B0.out 3
 have z4 := cell_of B0.out 4
 have z5 := cell_of B0.out 5
 have z6 := cell_of B0.out 6
 have y0 := cell_of B1.out 0
 have y1 := cell_of B1.out 1
 have y2 := cell_of B1.out 2
 have y3 := cell_of B1.out 3
 have y4 := cell_of B1.out 4
 have y5 := cell_of B1.out 5
 have y6 := cell_of B1.out 6
 simp only [List.getElem?_toArray, List.getElem?_cons_succ, List.getElem?_cons_zero] at z0 y0 z1 y1 z2 y2 z3 y3 z4 y4 z5 y5 z6 y6
 go_wp2_with fail
 refine (hasx_any w2 x y e f HX.out HY.out HT.out).mono ?_
 rintro r w3 ⟨rfl, hc⟩
 clear z0 y0 z1 y1 z2 y2 z3 y3 z4 y4 z5 y5 z6 y6
 replace C := Lib.hid (C.out.trans hc)
 replace HX := Lib.hid (HX.out.chg hc)
 replace HY := Lib.hid (HY.out.chg hc)
 replace B0 := Lib.hid (hc.at_ B0.out (by simp))
 replace B1 := Lib.hid (hc.at_ B1.out (by simp))
 clear hc
 rcases hh : hasE f.q e.n e.s with _ | _
 ·
  obtain rfl : v = false := by rw [← HV.out]; unfold aheadP; rw [hh]; rfl
  go_wp2; go_ret
  exact ⟨rfl, C.out⟩
 have z0 := cell_of B0.out 0
 have z1 := cell_of B0.out 1
 have z2 := cell_of B0.out 2
 have z3 := cell_of B0.out 3
 have z4 := cell_of B0.out 4
 have z5 := cell_of B0.out 5
 have z6 := cell_of B0.out 6
 have y0 := cell_of B1.out 0
 have y1 := cell_of B1.out 1
 have y2 := cell_of B1.out 2
 have y3 := cell_of B1.out 3
 have y4 := cell_of B1.out 4
 have y5 := cell_of B1.out 5
 have y6 := cell_of B1.out 6
 simp only [List.getElem?_toArray, List.getElem?_cons_succ, List.getElem?_cons_zero] at z0 y0 z1 y1 z2 y2 z3 y3 z4 y4 z5 y5 z6 y6
 go_wp2_with fail
 refine (evcheck_any w3 x e HX.out HS.out).mono ?_
 rintro r w4 ⟨rfl, hc⟩
 clear z0 y0 z1 y1 z2 y2 z3 y3 z4 y4 z5 y5 z6 y6
 replace C := Lib.hid (C.out.trans hc)
 replace HX := Lib.hid (HX.out.chg hc)
 replace HY := Lib.hid (HY.out.chg hc)
 replace B0 := Lib.hid (hc.at_ B0.out (by simp))
 replace B1 := Lib.hid (hc.at_ B1.out (by simp))
 clear hc
 rcases chkEv_two e with ha | ha
 rotate_left
 ·
  obtain rfl : v = false := by rw [← HV.out]; unfold aheadP; rw [ha]; simp
  rw [ha]
  go_wp2; go_ret
  exact ⟨rfl, C.out⟩
 rw [ha]
 have z0 := cell_of B0.out 0
 have z1 := cell_of B0.out 1
 have z2 := cell_of B0.out 2
 have z3 := cell_of B0.out 3
 have z4 := cell_of B0.out 4
 have z5 := cell_of B0.out 5
 have z6 := cell_of B0.out 6
 have y0 := cell_of B1.out 0
 have y1 := cell_of B1.out 1
 have y2 := cell_of B1.out 2
 have y3 := cell_of B1.out 3
 have y4 := cell_of B1.out 4
 have y5 := cell_of B1.out 5
 have y6 := cell_of B1.out 6
 simp only [List.getElem?_toArray, List.getElem?_cons_succ, List.getElem?_cons_zero] at z0 y0 z1 y1 z2 y2 z3 y3 z4 y4 z5 y5 z6 y6
 go_wp2_with fail
 refine (evcheck_any w4 y f HY.out HT.out).mono ?_
 rintro r w5 ⟨rfl, hc⟩
 clear z0 y0 z1 y1 z2 y2 z3 y3 z4 y4 z5 y5 z6 y6
 replace C := Lib.hid (C.out.trans hc)
 replace HX := Lib.hid (HX.out.chg hc)
 replace HY := Lib.hid (HY.out.chg hc)
 replace B0 := Lib.hid (hc.at_ B0.out (by simp))
 replace B1 := Lib.hid (hc.at_ B1.out (by simp))
 clear hc
 rcases chkEv_two f with hb | hb
 rotate_left
 ·
  obtain rfl : v = false := by rw [← HV.out]; unfold aheadP; rw [hb]; simp
  rw [hb]
  go_wp2; go_ret
  exact ⟨rfl, C.out⟩
 rw [hb]
 obtain rfl : v = true := by rw [← HV.out]; unfold aheadP; rw [hh, ha, hb]; rfl
 go_wp2; go_ret
 exact ⟨rfl, C.out⟩
end
section
open Go.RowKit Go.Lib

def ownS (e : EvP) : Sp := (e.n, e.s, e.s)
theorem chk_fine {e : EvP} (h : chkEv e = 0) : chkS e.q = 0 ∧ B3 (ownS e) ∧ lastL e.n e.q < e.s := by
 have o : EvOk e := by
  unfold chkEv at h
  split at h
  ·
   assumption
  ·
   exact absurd h (by decide)
 obtain ⟨o0, _, _, o3, o4⟩ := o
 have d : FineD e.n e.s := by
  by_cases f : FineD e.n e.s
  ·
   exact f
  ·
   have := chkD_odd f
   rw [show chkD e.n e.s = 0 from o0] at this
   exact absurd this (by decide)
 have q : chkS e.q = 0 := o3
 refine ⟨q, ?_, ?_⟩
 ·
  unfold FineD at d
  unfold B3 ownS
  simp only
  omega
 ·
  have := o4
  unfold evOk at this
  simp only [q, if_true] at this
  exact this
theorem own_out {e : EvP} (h : chkEv e = 0) : ¬ Mem e.q e.n e.s := by
 intro q
 have c := chk_fine h
 have := last_ge (wf_of_chk c.1).1 q
 omega
end
section
open Go.RowKit

theorem Chg.both {w w1 w2 : World} {S : List Nat} (h : Chg [] w w1) (k : Chg S w1 w2) (hs : ∀ i ∈ S, w.heap.size ≤ i) : Chg [] w w2 :=
 h.trans' k fun i hi => .inr (hs i hi)

def Ws (w w' : World) (b : Nat) (xs : List UInt8) (e : Int) : Prop := ∃ g, Wrt w' b g xs e ∧ w.heap.size ≤ b ∧ w.heap.size ≤ g ∧ Chg [] w w'
theorem Ws.chg {w w' : World} {b : Nat} {xs : List UInt8} {e : Int} (h : Ws w w' b xs e) : Chg [] w w' := by obtain ⟨_, _, _, _, h⟩ := h; exact h
theorem ws_between {w w1 w2 : World} {b g : Nat} {xs : List UInt8} {e : Int} (h2 : w.heap.size ≤ b) (h3 : w.heap.size ≤ g) (h4 : Chg [] w w1) (h : Between w1 w2 b g xs e) : Ws w w2 b xs e := by
 obtain ⟨g', q1, q2, q3⟩ := h
 have := h4.size
 refine ⟨g', q1, h2, by omega, h4.both q2 ?_⟩
 intro i hi
 simp at hi
 omega
theorem ws_new (w w1 : World) (hc : Chg [] w w1) : Calls Tryz.prog 133 #[] w1 fun r w' => ∃ b, r = .returned (.pointer (some ⟨b, 0, none⟩)) ∧ Ws w w' b [] 0 :=
 (new_any w1).mono fun _ _ ⟨h1, h2, h3⟩ => ⟨_, h1, _, h2, hc.size, hc.size, hc.trans h3⟩
theorem ws_num (w w1 : World) (b : Nat) (xs : List UInt8) (e x : Int) (h : Ws w w1 b xs e) (hlen : xs.length ≤ 1048576) :
  Calls Tryz.prog 134 #[.pointer (some ⟨b, 0, none⟩), .int .i64 x] w1 fun r w' => r = .returned (.tuple #[]) ∧ Ws w w' b (wNum xs e x).1 (wNum xs e x).2 := by
 obtain ⟨g, h1, h2, h3, h4⟩ := h
 exact (wnum_any w1 b g xs e x h1 hlen).mono fun _ _ ⟨q1, q2⟩ => ⟨q1, ws_between h2 h3 h4 q2⟩
theorem ws_raw (w w1 : World) (b : Nat) (xs : List UInt8) (e : Int) (B : Option Addr) (m d : Nat) (ys : List UInt8) (h : Ws w w1 b xs e) (hlen : xs.length ≤ 1048576) (hm : m ≤ 140737488351232) (hr : Bs w B m ys) :
  Calls Tryz.prog 136 #[.pointer (some ⟨b, 0, none⟩), .slice B m d] w1 fun r w' => r = .returned (.tuple #[]) ∧ Ws w w' b (wRaw xs e ys).1 (wRaw xs e ys).2 := by
 obtain ⟨g, h1, h2, h3, h4⟩ := h
 exact (wraw_any w1 b g xs e B m d ys h1 hlen hm (hr.chg h4 (by simp)) (hr.apart h2 h3)).mono fun _ _ ⟨q1, q2⟩ => ⟨q1, ws_between h2 h3 h4 q2⟩
theorem ws_text (w w1 : World) (b : Nat) (xs : List UInt8) (e : Int) (s : ByteArray) (h : Ws w w1 b xs e) (hlen : xs.length ≤ 1048576) (hm : s.size ≤ 140737488351232) :
  Calls Tryz.prog 135 #[.pointer (some ⟨b, 0, none⟩), .string s] w1 fun r w' => r = .returned (.tuple #[]) ∧ Ws w w' b (wRaw xs e s.data.toList).1 (wRaw xs e s.data.toList).2 := by
 obtain ⟨g, h1, h2, h3, h4⟩ := h
 exact (wtext_any w1 b g xs e s h1 hlen hm).mono fun _ _ ⟨q1, q2⟩ => ⟨q1, ws_between h2 h3 h4 q2⟩
theorem Fresh.since {w w1 w2 : World} {A : Option Addr} {c : Nat} {ys : List UInt8} (hc : Chg [] w w1) (h : Fresh w1 w2 A c ys) : Fresh w w2 A c ys :=
 ⟨h.1, fun a e => by have := h.2.1 a e; have := hc.size; omega, hc.trans h.2.2⟩
theorem Fresh.none_ {w w1 : World} (hc : Chg [] w w1) : Fresh w w1 none 0 [] := ⟨OwnB.none_ _, by simp, hc⟩
theorem ws_out (w w1 : World) (b : Nat) (xs : List UInt8) (e : Int) (h : Ws w w1 b xs e) (hlen : xs.length ≤ 1048576) :
  Calls Tryz.prog 137 #[.pointer (some ⟨b, 0, none⟩)] w1 fun r w' => ∃ A c, r = .returned (.tuple #[.slice A (outs xs e).length c, .int .i64 e]) ∧ Fresh w w' A c (outs xs e) := by
 obtain ⟨g, h1, h2, h3, h4⟩ := h
 exact (wout_any w1 b g xs e h1 hlen).mono fun _ _ ⟨A, c, q1, q2⟩ => ⟨A, c, q1, q2.since h4⟩
end
section
open Go.RowKit

def effB (k m : Int) (ys : List UInt8) : List UInt8 := enc k.toNat ++ enc m.toNat ++ enc ys.length ++ ys
def effO (k m : Int) (ys : List UInt8) : List UInt8 := if Fine k m ys.length then effB k m ys else []
theorem fine_len {k m : Int} {n : Nat} (h : Fine k m n) : 0 ≤ k ∧ k ≤ 3 ∧ 0 ≤ m ∧ m ≤ 511 ∧ n ≤ 1000 := by unfold Fine at h; omega
theorem eff_writes {k m : Int} {ys : List UInt8} (h : Fine k m ys.length) :
  wNum [] 0 k = (enc k.toNat, 0) ∧ wNum (enc k.toNat) 0 m = (enc k.toNat ++ enc m.toNat, 0) ∧ wRaw (enc k.toNat ++ enc m.toNat) 0 ys = (effB k m ys, 0) ∧ (enc k.toNat).length ≤ 9 ∧ (enc k.toNat ++ enc m.toNat).length ≤ 18 ∧ (effB k m ys).length ≤ 1100 := by
 obtain ⟨h1, h2, h3, h4, h5⟩ := fine_len h
 have b1 := nb_le k.toNat (by omega)
 have b2 := nb_le m.toNat (by omega)
 have b3 := nb_le ys.length (by omega)
 have l1 : (enc k.toNat).length = 1 + nb k.toNat := enc_len _
 have l2 : (enc m.toNat).length = 1 + nb m.toNat := enc_len _
 have l3 : (enc ys.length).length = 1 + nb ys.length := enc_len _
 refine ⟨?_, ?_, ?_, by omega, by rw [List.length_append]; omega, by unfold effB; simp only [List.length_append]; omega⟩
 ·
  unfold wNum; rw [if_neg (by simp), if_neg (by omega), if_neg (by simp; omega), List.nil_append]
 ·
  unfold wNum; rw [if_neg (by simp), if_neg (by omega), if_neg (by omega)]
 ·
  unfold wRaw effB; rw [if_neg (by simp), if_neg (by simp only [List.length_append]; omega)]

set_option maxHeartbeats 1000000 in
theorem ebytes_any (w : World) (k m : Int) (A : Option Addr) (n c : Nat) (ys : List UInt8) (h : Bs w A n ys) (hn : n ≤ 140737488351232) :
  Calls Tryz.prog 131 #[.agg #[.int .i64 k, .int .i64 m, .slice A n c]] w fun e w' => ∃ A' c', e = .returned (.tuple #[.slice A' (effO k m ys).length c', .int .i64 (chkE k m n)]) ∧ Fresh w w' A' c' (effO k m ys) := by
 have hl := h.len
 subst hl
 obtain ⟨w0, hw0⟩ : ∃ w0 : World, w0 = w.alloc (.cells #[.int .i64 k, .int .i64 m, .slice A ys.length c] 27) := ⟨_, rfl⟩
 have c0 : Chg [] w w0 := hw0 ▸ (Chg.refl [] w).alloc _
 have b0 : w0.heap[w.heap.size]? = some (.cells #[.int .i64 k, .int .i64 m, .slice A ys.length c] 27 (0, 0)) := hw0 ▸ heap_alloc_new w _
 have k0 := cell_of b0 0
 have k1 := cell_of b0 1
 have k2 := cell_of b0 2
 simp only [List.getElem?_toArray, List.getElem?_cons_succ, List.getElem?_cons_zero] at k0 k1 k2
 have H := Lib.hid (h.chg c0 (by simp))
 have W0 := Lib.hid hw0
 have C0 := Lib.hid c0
 clear hw0 c0 b0 h
 unfold effO
 by_cases hf : Fine k m ys.length
 ·
  rw [if_pos hf, chkE_fine hf]
  obtain ⟨e1, e2, e3, l1, l2, l3⟩ := eff_writes hf
  have E1 := Lib.hid e1
  have E2 := Lib.hid e2
  have E3 := Lib.hid e3
  have hc := check_any w0 k m A ys.length c hn
  rw [chkE_fine hf] at hc
  have HC := Lib.hid hc
  clear e1 e2 e3 hf hc
  go_enter Tryz.func131, Tryz.ntmps131
  go_wp2_with fail
  rw [← W0.out]
  refine HC.out.mono ?_
  rintro e w1 ⟨rfl, c1⟩
  have C1 := Lib.hid c1
  clear c1
  generalize w.heap.size = s at *
  go_wp2_with fail
  refine (ws_new w0 w1 C1.out).mono ?_
  rintro e w2 ⟨b, rfl, h2⟩
  have p0 := h2.chg.cell k0 (by simp)
  have K2 := Lib.hid h2
  clear h2 C1; go_wp2_with fail
  refine (ws_num w0 w2 b [] 0 k K2.out (by simp)).mono ?_
  rintro e w3 ⟨rfl, h3⟩
  rw [E1.out] at h3
  have p1 := h3.chg.cell k1 (by simp)
  have K3 := Lib.hid h3
  clear h3 p0 K2; go_wp2_with fail
  refine (ws_num w0 w3 b _ 0 m K3.out (by omega)).mono ?_
  rintro e w4 ⟨rfl, h4⟩
  rw [E2.out] at h4
  have p2 := h4.chg.cell k2 (by simp)
  have K4 := Lib.hid h4
  clear h4 p1 K3; go_wp2_with fail
  refine (ws_raw w0 w4 b _ 0 A ys.length c ys K4.out (by omega) hn H.out).mono ?_
  rintro e w5 ⟨rfl, h5⟩
  rw [E3.out] at h5
  have K5 := Lib.hid h5
  clear h5 p2 K4; go_wp2_with fail
  refine (ws_out w0 w5 b _ 0 K5.out (by omega)).mono ?_
  rintro e w6 ⟨A', c', rfl, h6⟩
  have e0 : outs (effB k m ys) 0 = effB k m ys := by simp [outs]
  rw [e0] at h6 ⊢
  have K6 := Lib.hid (h6.since C0.out)
  clear h6 e0 k0 k1 k2 K5; go_wp2; go_ret2
  exact ⟨A', c', rfl, K6.out⟩
 ·
  rw [if_neg hf, chkE_odd hf]
  have hc := check_any w0 k m A ys.length c hn
  rw [chkE_odd hf] at hc
  have HC := Lib.hid hc
  clear hf hc
  go_enter Tryz.func131, Tryz.ntmps131
  go_wp2_with fail
  rw [← W0.out]
  refine HC.out.mono ?_
  rintro e w1 ⟨rfl, c1⟩
  have C1 := Lib.hid (C0.out.trans c1)
  clear c1; go_wp2; go_ret2
  exact ⟨none, 0, rfl, Fresh.none_ C1.out⟩
end
section
open Go.RowKit

set_option maxHeartbeats 400000 in
theorem longeff_any (w : World) (k m : Int) (A : Option Addr) (n c : Nat) (_hn : n ≤ 140737488351232) :
  Calls Tryz.prog 42 #[.agg #[.int .i64 k, .int .i64 m, .slice A n c]] w fun e w' => e = .returned (.bool (decide ((1200 : Int) < n))) ∧ Chg [] w w' := by
 go_enter Tryz.func42, Tryz.ntmps42
 go_wp2; go_ret
 exact ⟨rfl, (Chg.refl _ _).alloc _⟩
end
section
open Go.RowKit Go.Lib


def bigE (x : EvT) : Prop := 100 < x.p.size ∨ 1200 < x.l ∨ 100 < x.bl
instance (x : EvT) : Decidable (bigE x) := by unfold bigE; exact inferInstance
def longE (xs : List EvT) (most : Nat) : Bool := (xs.take (most + 1)).any (fun x => decide (bigE x)) || decide (most < xs.length)
theorem longE_no {xs : List EvT} {most : Nat} (h : longE xs most = false) : xs.length ≤ most ∧ ∀ x ∈ xs, ¬ bigE x := by
 unfold longE at h
 rw [Bool.or_eq_false_iff, decide_eq_false_iff_not, List.any_eq_false] at h
 refine ⟨by omega, fun x hx => ?_⟩
 have := h.1 x (by rw [List.take_of_length_le (by omega)]; exact hx)
 simpa using this
theorem longE_yes {xs : List EvT} {most k : Nat} {x : EvT} (hx : xs[k]? = some x) (hk : k ≤ most) (hb : bigE x) : longE xs most = true := by
 unfold longE
 rw [Bool.or_eq_true, List.any_eq_true]
 refine .inl ⟨x, ?_, decide_eq_true hb⟩
 have hl := (List.getElem?_eq_some_iff.1 hx).1
 exact List.mem_of_getElem? (i := k) (by rw [List.getElem?_take, if_pos (by omega)]; exact hx)
set_option maxRecDepth 100000 in
set_option maxHeartbeats 8000000 in
theorem longevs_any (w : World) (A : Option Addr) (c : Nat) (xs : List EvT) (most : Nat) (h : RdK evTy w A xs.length xs) (hn : xs.length ≤ 140737488351232) (hm : most ≤ 1000) (hs : ∀ x ∈ xs, x.l ≤ 140737488351232) :
  Calls Tryz.prog 7 #[.slice A xs.length c, .int .i64 (most : Int)] w fun r w' => r = .returned (.bool (longE xs most)) ∧ Chg [] w w' := by
 have H := Lib.hid h
 have HN := Lib.hid hn
 have HM := Lib.hid hm
 have HS := Lib.hid hs
 clear h hn hm hs
 generalize hv : longE xs most = v
 have HV := Lib.hid hv
 clear hv
 go_enter Tryz.func7, Tryz.ntmps7
 go_wp2
 go_loopw [5] (fun v5 wr => ∃ k : Nat, k ≤ xs.length ∧ k ≤ most + 1 ∧ v5 = .int .i64 k ∧ Hid (∀ x ∈ xs.take k, ¬ bigE x) ∧ Hid (Chg [] w wr)) (fun v5 _ => xs.length - (RowKit.intOf v5).toNat)
 case atStart => exact ⟨0, Nat.zero_le _, Nat.zero_le _, rfl, Lib.hid (by simp), Chg.refl _ _⟩
 case round =>
  obtain ⟨k, hk, hk2, rfl, NB, RC⟩ := hrel
  have i0 : (0 : Int) ≤ (k : Int) := by omega
  by_cases hlt : k < xs.length
  ·
   have i1 : (k : Int) < (xs.length : Int) := by omega
   by_cases hle : k ≤ most
   ·
    have i2 : (k : Int) ≤ (most : Int) := by omega
    have i3 : IntKind.i64.wrap ((k : Int) + 1) = (k : Int) + 1 := IntWalk.i64_in _ (by have := HN.out; omega)
    obtain ⟨x, hx⟩ : ∃ x, xs[k]? = some x := ⟨_, List.getElem?_eq_getElem hlt⟩
    obtain ⟨g, o, eA, _⟩ := H.out.line (by omega)
    subst eA
    obtain ⟨z0, z1, z2, z3, z4, z5, z6⟩ := evCells (H.out.chg RC.out (by simp)) hx
    have LY : Hid (bigE x → v = true) := Lib.hid (fun q => by rw [← HV.out]; exact longE_yes hx hle q)
    have NX : Hid (¬ bigE x → ∀ y ∈ xs.take (k + 1), ¬ bigE y) := Lib.hid (fun q y hy => by
     rw [List.take_add_one, hx] at hy
     rcases List.mem_append.1 hy with r | r
     ·
      exact NB.out y r
     ·
      simp at r; subst r; exact q)
    have XS := Lib.hid (HS.out x (List.mem_of_getElem? hx))
    clear hx
    by_cases b1 : 100 < x.p.size
    ·
     have j1 : (100 : Int) < (x.p.size : Int) := by omega
     obtain rfl := LY.out (.inl b1)
     clear LY NX b1; go_wp2; go_ret
     exact ⟨rfl, RC.out⟩
    have j1 : ¬ (100 : Int) < (x.p.size : Int) := by omega
    go_wp2_with fail
    refine (longeff_any wr x.k x.m x.A x.l x.c XS.out).mono ?_
    rintro r w2 ⟨rfl, hc⟩
    have C2 := Lib.hid (RC.out.trans hc)
    have y6 := hc.cell z6 (by simp)
    clear hc z0 z1 z2 z3 z4 z5 z6 j1
    by_cases b2 : 1200 < x.l
    ·
     rw [decide_eq_true (show (1200 : Int) < (x.l : Int) by omega)]
     obtain rfl := LY.out (.inr (.inl b2))
     clear LY NX b1 b2 y6; go_wp2; go_ret
     exact ⟨rfl, C2.out⟩
    rw [decide_eq_false (show ¬ (1200 : Int) < (x.l : Int) by omega)]
    by_cases b3 : 100 < x.bl
    ·
     have j3 : (100 : Int) < (x.bl : Int) := by omega
     obtain rfl := LY.out (.inr (.inr b3))
     clear LY NX b1 b2 b3; go_wp2; go_ret
     exact ⟨rfl, C2.out⟩
    have j3 : ¬ (100 : Int) < (x.bl : Int) := by omega
    have NN := Lib.hid (NX.out (fun q => by unfold bigE at q; omega))
    clear LY NX b1 b2 b3; go_wp2; go_round
    case rel => exact ⟨k + 1, by omega, by omega, by go_num, NN, C2.out⟩
    case measure => simp [RowKit.intOf]; omega
   ·
    have i2 : ¬ (k : Int) ≤ (most : Int) := by omega
    have i4 : (most : Int) < (xs.length : Int) := by omega
    obtain rfl : v = true := by rw [← HV.out]; unfold longE; rw [decide_eq_true (show most < xs.length by omega)]; simp
    clear HV; go_wp2; go_ret
    exact ⟨rfl, RC.out⟩
  ·
   obtain rfl : k = xs.length := by omega
   have i1 : ¬ (xs.length : Int) < (xs.length : Int) := by omega
   by_cases hle : most < xs.length
   ·
    have i4 : (most : Int) < (xs.length : Int) := by omega
    obtain rfl : v = true := by rw [← HV.out]; unfold longE; rw [decide_eq_true hle]; simp
    clear HV; go_wp2; go_ret
    exact ⟨rfl, RC.out⟩
   ·
    have i4 : ¬ (most : Int) < (xs.length : Int) := by omega
    obtain rfl : v = false := by
     rw [← HV.out]
     unfold longE
     rw [decide_eq_false hle, Bool.or_false, List.any_eq_false]
     intro x hx
     have q := NB.out x (by rw [List.take_length]; exact List.mem_of_mem_take hx)
     simpa using q
    clear HV; go_wp2; go_ret
    exact ⟨rfl, RC.out⟩
end
section
open Go.RowKit Go.Lib

theorem rdk_nil {α : Type} {R : RowTy α} {w : World} {n : Nat} {xs : List α} (h : RdK R w none n xs) : xs = [] := by
 cases xs with
 | nil => rfl
 | cons y ys =>
  have : 0 < (R.flat (y :: ys)).length := by rw [R.flat_len, List.length_cons]; exact Nat.mul_pos (by omega) R.kpos
  obtain ⟨a, h, _⟩ := h.cells 0 _ (List.getElem?_eq_getElem this); cases h
end
section
open Go.RowKit Go.Sort
section
variable {α : Type} [Inhabited α] {R : RowTy α}

theorem flatK_flat (d : Array α) : (flatK R.enc R.k d).toList = R.flat d.toList := by
 refine R.flat_ext _ _ (by simp) ?_
 intro q i x hx hi
 rw [Array.getElem?_toList] at hx ⊢
 have hq : q < d.size := (Array.getElem?_eq_some_iff.1 hx).1
 have hlt : q * R.k + i < d.size * R.k := by
  have := Nat.mul_le_mul_right R.k (show q + 1 ≤ d.size by omega)
  rw [Nat.succ_mul] at this
  omega
 have e := get_flatK R.enc R.k d (q * R.k + i) hlt
 have h1 : (q * R.k + i) / R.k = q := by
  rw [Nat.add_comm, Nat.add_mul_div_right _ _ R.kpos, Nat.div_eq_of_lt hi, Nat.zero_add]
 have h2 : (q * R.k + i) % R.k = i := by rw [Nat.add_comm, Nat.add_mul_mod_self_right, Nat.mod_eq_of_lt hi]
 rw [h1, h2] at e
 have hd : d[q]! = x := by
  rw [getElem!_pos d q hq]
  rw [Array.getElem?_eq_getElem hq] at hx
  exact Option.some.inj hx
 rw [hd] at e
 have hs : q * R.k + i < (flatK R.enc R.k d).size := by simpa using hlt
 rw [getElem!_pos (flatK R.enc R.k d) _ hs] at e
 have hi2 : i < (R.enc x).length := by rw [R.klen]; exact hi
 rw [getElem!_pos (R.enc x) _ hi2] at e
 rw [Array.getElem?_eq_getElem hs, List.getElem?_eq_getElem hi2, e]
theorem OwnK.holds {w : World} {g c : Nat} {xs : List α} (h : OwnK R w (some ⟨g, 0, none⟩) c xs) : HoldsK R.enc R.k w g 0 xs.toArray := by
 rcases h with ⟨h, _⟩ | ⟨g', full, h, hg, hl, _, hn, ht⟩
 ·
  cases h
 ·
  cases h
  intro j hj
  refine ⟨?_, free_of hg _⟩
  rw [Nat.zero_add, cell_of hg]
  have hs : j < (flatK R.enc R.k xs.toArray).size := hj
  rw [getElem!_pos (flatK R.enc R.k xs.toArray) _ hs]
  have e := flatK_flat (R := R) xs.toArray
  simp only at e
  have e2 : (flatK R.enc R.k xs.toArray)[j]? = (R.flat xs)[j]? := by rw [← Array.getElem?_toList, e]
  rw [Array.getElem?_eq_getElem hs] at e2
  have e3 : (R.flat full)[j]? = (R.flat xs)[j]? := by
   have hj2 : j < xs.length * R.k := by simpa using hj
   conv => rhs; rw [← ht, R.flat_take, List.getElem?_take, if_pos hj2]
  show (R.flat full).toArray[j]? = some (id _)
  rw [List.getElem?_toArray, e3, ← e2]
  rfl
theorem putCells_flat (xs ys full : List α) (hl : ys.length = xs.length) (hf : full.take xs.length = xs) (hn : xs.length ≤ full.length) :
  (putCells id 0 (flatK R.enc R.k ys.toArray) (R.flat full).toArray) = (R.flat (ys ++ full.drop xs.length)).toArray := by
 apply Array.toList_inj.1
 apply List.ext_getElem?
 intro p
 have hsz : (flatK R.enc R.k ys.toArray).size = xs.length * R.k := by simp [hl]
 rw [show (R.flat (ys ++ full.drop xs.length)).toArray.toList = R.flat (ys ++ full.drop xs.length) by simp, R.flat_app, R.flat_drop]
 rw [Array.getElem?_toList]
 unfold putCells
 rw [Array.getElem?_mapIdx, List.getElem?_toArray]
 by_cases hp : p < xs.length * R.k
 ·
  have hs : p < (flatK R.enc R.k ys.toArray).size := by omega
  have hp2 : p < (R.flat full).length := by rw [R.flat_len]; exact Nat.lt_of_lt_of_le hp (Nat.mul_le_mul_right _ hn)
  rw [List.getElem?_append_left (by rw [R.flat_len, hl]; exact hp), List.getElem?_eq_getElem hp2]
  simp only [Option.map_some, Nat.zero_le, true_and, Nat.zero_add]
  rw [if_pos hs, Nat.sub_zero, getElem!_pos (flatK R.enc R.k ys.toArray) _ hs]
  have e := flatK_flat (R := R) ys.toArray
  have e2 : (flatK R.enc R.k ys.toArray)[p]? = (R.flat ys)[p]? := by rw [← Array.getElem?_toList, e]
  rw [← e2, Array.getElem?_eq_getElem hs]
  rfl
 ·
  rw [List.getElem?_append_right (by rw [R.flat_len, hl]; omega), R.flat_len, hl, List.getElem?_drop, show xs.length * R.k + (p - xs.length * R.k) = p by omega]
  cases (R.flat full)[p]? with
  | none => rfl
  | some v =>
   simp only [Option.map_some]
   rw [if_neg (by rw [hsz]; omega)]
theorem OwnK.sorted {w : World} {g c : Nat} {xs ys : List α} (h : OwnK R w (some ⟨g, 0, none⟩) c xs) (hl : ys.length = xs.length) (n : Nat) (os : Array Obj) :
  OwnK R (sortWorldK R.enc R.k w g 0 n ys.toArray os) (some ⟨g, 0, none⟩) c ys ∧ Chg [g] w (sortWorldK R.enc R.k w g 0 n ys.toArray os) := by
 rcases h with ⟨h, _⟩ | ⟨g', full, h, hg, hfl, hm, hn, ht⟩
 ·
  cases h
 ·
  cases h
  have hsz : (sortWorldK R.enc R.k w g 0 n ys.toArray os).heap = (w.heap.modify g (onCells (putCells id 0 (flatK R.enc R.k ys.toArray)))) ++ os := rfl
  have hgl := lt_of_heap hg
  refine ⟨.inr ⟨g, ys ++ full.drop xs.length, rfl, ?_, by simp; omega, hm, by omega, ?_⟩, ⟨rfl, rfl, rfl, by rw [hsz]; simp, fun i hi hne => ?_⟩⟩
  ·
   rw [hsz, Array.getElem?_append_left (by simpa using hgl), Array.getElem?_modify, if_pos rfl, hg]
   simp only [Option.map_some, onCells]
   rw [putCells_flat xs ys full hl ht (by omega)]
  ·
   exact List.take_left
  ·
   rw [hsz, Array.getElem?_append_left (by simpa using hi), Array.getElem?_modify, if_neg (by simp at hne; exact fun h => hne h.symm)]
end
end
end Go.Proofs.YtomgjogkkoigbaaGreatDoor
