/- Where the shelf of a path stands in a store, and all paths of it: purely. shelf.isAheadOfOne. shelf.without's func; IndexFunc at it. Package past: Bytes; the document's. The document's Bytes of a past. The program's Bytes of a past. The numbers of bytes: the program's, the document's. The document's four. The program's Read of a past. The walk of past.Read. past.Read of all bytes. A past's bytes are read as it; what is read has just these bytes. Plain. -/
import Derived.Test.YtehmchdhlhchjaaGreatDoorZear
import Derived.Test.YtehmchdhlhchjaaGreatDoorZeap
import Derived.Test.YtehmchdhlhchjaaGreatDoorZeag
import Derived.Deep.Cut
import Derived.Test.YtehmchdhlhchjaaGreatDoorZeab
import Derived.Test.YtehmchdhlhchjaaGreatDoorZean
import Derived.Test.YtehmchdhlhchjaaGreatDoorZeaa
import Derived.Laws.MakeOwn
import Derived.Deep.QuietTactic
import Derived.BigQuiet
import Derived.Deep.RegionHeld3
set_option linter.unusedSimpArgs false
set_option linter.unusedVariables false
set_option maxHeartbeats 32000000
namespace Go.Proofs.YtehmchdhlhchjaaGreatDoor
section
open Go.RowKit Go.Lib

theorem filter_parts {α : Type} {s : List α} {f : α → Bool} {i j : Nat} (ij : i ≤ j) (a : ∀ p x, s[p]? = some x → p < i → f x = false) (b : ∀ p x, s[p]? = some x → i ≤ p → p < j → f x = true) (c : ∀ p x, s[p]? = some x → j ≤ p → f x = false) : s.filter f = segL s i j := by
 have e := seg_all s ij
 have h1 : (s.take i).filter f = [] := List.filter_eq_nil_iff.2 (fun x hx => by
  obtain ⟨p, hp⟩ := List.getElem?_of_mem hx
  rw [List.getElem?_take] at hp
  split at hp
  ·
   rename_i q; rw [a p x hp q]; decide
  ·
   cases hp)
 have h2 : (segL s i j).filter f = segL s i j := List.filter_eq_self.2 (fun x hx => by
  obtain ⟨p, hp⟩ := List.getElem?_of_mem hx
  by_cases q : i + p < j
  ·
   rw [seg_get s q] at hp; exact b _ x hp (by omega) q
  ·
   rw [seg_get_no s q] at hp; cases hp)
 have h3 : (s.drop j).filter f = [] := List.filter_eq_nil_iff.2 (fun x hx => by
  obtain ⟨p, hp⟩ := List.getElem?_of_mem hx
  rw [List.getElem?_drop] at hp
  rw [c _ x hp (by omega)]; decide)
 conv => lhs; rw [e]
 rw [List.filter_append, List.filter_append, h1, h2, h3, List.append_nil, List.nil_append]
theorem seg_zero {α : Type} (s : List α) (i : Nat) : segL s 0 i = s.take i := by unfold segL; rfl
theorem seg_end {α : Type} (s : List α) (j : Nat) : segL s j s.length = s.drop j := by unfold segL; rw [List.take_length]
def LoP (s : List EvP) (q : List UInt8) (i : Nat) : Prop := ∀ p x, s[p]? = some x → p < i → lessL x.p q = true
def HiP (s : List EvP) (q : List UInt8) (i : Nat) : Prop := ∀ p x, s[p]? = some x → i ≤ p → lessL x.p q = false
theorem leP_at {s : List EvP} (h : s.Pairwise leP) {i k : Nat} {a b : EvP} (ha : s[i]? = some a) (hb : s[k]? = some b) (hik : i < k) : leP a b := by
 obtain ⟨li, ei⟩ := List.getElem?_eq_some_iff.1 ha
 obtain ⟨lk, ek⟩ := List.getElem?_eq_some_iff.1 hb
 have := List.pairwise_iff_getElem.1 h i k li lk hik
 rwa [ei, ek] at this
theorem loP_next {s : List EvP} {q : List UInt8} (h : s.Pairwise leP) {k : Nat} {x : EvP} (hx : s[k]? = some x) (hc : lessL x.p q = true) : LoP s q (k + 1) := by
 intro p y hy hp
 by_cases e : p = k
 ·
  subst e; rw [hx] at hy; cases hy; exact hc
 ·
  rcases leP_at h hy hx (by omega) with r | r
  ·
   rw [r]; exact hc
  ·
   exact less_trans _ _ _ r hc
theorem hiP_next {s : List EvP} {q : List UInt8} (h : s.Pairwise leP) {k : Nat} {x : EvP} (hx : s[k]? = some x) (hc : lessL x.p q = false) : HiP s q k := by
 intro p y hy hp
 by_cases e : p = k
 ·
  subst e; rw [hx] at hy; cases hy; exact hc
 ·
  rcases leP_at h hx hy (by omega) with r | r
  ·
   rw [← r]; exact hc
  ·
   rcases t : lessL y.p q with _ | _
   ·
    rfl
   ·
    rw [less_trans _ _ _ r t] at hc; cases hc
theorem place_parts {s : List EvP} {q : List UInt8} {i j : Nat} (h : s.Pairwise leP) (ij : i ≤ j) (jl : j ≤ s.length) (lo : LoP s q i) (hi : HiP s q i) (mid : ∀ p x, s[p]? = some x → i ≤ p → p < j → x.p = q) (st : ∀ x, s[j]? = some x → x.p ≠ q) : s.take i = s.filter (fun x => lessL x.p q) ∧ segL s i j = atS s q ∧ s.drop j = s.filter (fun x => lessL q x.p) := by
 have back : ∀ p x, s[p]? = some x → j ≤ p → lessL q x.p = true := fun p x hx hp => by
  have jlt : j < s.length := by have := (List.getElem?_eq_some_iff.1 hx).1; omega
  obtain ⟨y, hy⟩ : ∃ y, s[j]? = some y := ⟨_, List.getElem?_eq_getElem jlt⟩
  have hy1 : lessL q y.p = true := by
   rcases less_tri y.p q with r | r | r
   ·
    exact absurd r (st y hy)
   ·
    rw [hi j y hy ij] at r; cases r
   ·
    exact r
  by_cases e : p = j
  ·
   subst e; rw [hx] at hy; cases hy; exact hy1
  ·
   rcases leP_at h hy hx (by omega) with r | r
   ·
    rw [← r]; exact hy1
   ·
    exact less_trans _ _ _ hy1 r
 refine ⟨?_, ?_, ?_⟩
 ·
  rw [← seg_zero]
  exact (filter_parts (Nat.zero_le _) (fun p x hx hp => absurd hp (by omega)) (fun p x hx _ hp => lo p x hx hp) (fun p x hx hp => hi p x hx hp)).symm
 ·
  unfold atS
  exact (filter_parts ij (fun p x hx hp => decide_eq_false (less_ne (lo p x hx hp))) (fun p x hx h1 h2 => decide_eq_true (mid p x hx h1 h2)) (fun p x hx hp => decide_eq_false (fun e => less_ne (back p x hx hp) e.symm))).symm
 ·
  rw [← seg_end]
  refine (filter_parts jl (fun p x hx hp => ?_) (fun p x hx h1 _ => back p x hx h1) (fun p x hx hp => absurd (List.getElem?_eq_some_iff.1 hx).1 (by omega))).symm
  by_cases r : p < i
  ·
   exact less_not _ _ (lo p x hx r)
  ·
   rw [mid p x hx (by omega) hp]; exact less_self q
/-! All paths, each once -/
end
section
open Go.RowKit Go.Lib


def IdxP (es : List EvP) (p : EvP → Bool) (v : Int) : Prop := (v = -1 ∧ ∀ e ∈ es, p e = false) ∨ ∃ (k : Nat) (e : EvP), v = k ∧ es[k]? = some e ∧ p e = true ∧ ∀ e ∈ es.take k, p e = false
theorem IdxP.any {es : List EvP} {p : EvP → Bool} {v : Int} (h : IdxP es p v) : es.any p = decide (0 ≤ v) := by
 rcases h with ⟨rfl, h⟩ | ⟨k, e, rfl, hk, hp, _⟩
 ·
  rw [List.any_eq_false.2 (fun e he => by rw [h e he]; decide)]
  rfl
 ·
  rw [List.any_eq_true.2 ⟨e, List.mem_of_getElem? hk, hp⟩]
  exact (decide_eq_true (by omega)).symm
theorem all_take_no {es : List EvP} {p : EvP → Bool} {k : Nat} {e : EvP} (h : ∀ e ∈ es.take k, p e = false) (hk : es[k]? = some e) (he : p e = false) : ∀ e ∈ es.take (k + 1), p e = false := by
 intro x hx
 rw [List.take_add_one, hk] at hx
 rcases List.mem_append.1 hx with q | q
 ·
  exact h x q
 ·
  simp at q
  subst q
  exact he

set_option maxRecDepth 100000 in
theorem shahead1_any (w : World) (gp : Nat) (x y : EvT) (e f : EvP) (hp : w.heap[gp]? = some (.cells #[.int .i64 y.n, .int .i64 y.s, .string y.p, .int .i64 y.k, .int .i64 y.m, .slice y.A y.l y.c, .slice y.B y.bl y.bc] 40 (0, 0))) (hx : EvR w x e) (hy : EvR w y f) (hs : EvSm e) (ht : EvSm f) :
  Calls Tryz.prog 168 #[.agg #[.int .i64 x.n, .int .i64 x.s, .string x.p, .int .i64 x.k, .int .i64 x.m, .slice x.A x.l x.c, .slice x.B x.bl x.bc], .pointer (some ⟨gp, 0, none⟩)] w fun r w' => r = .returned (.bool (aheadP f e)) ∧ Chg [] w w' := by
 obtain ⟨w1, hw1, c1, b1⟩ := news1 w (.cells #[.int .i64 x.n, .int .i64 x.s, .string x.p, .int .i64 x.k, .int .i64 x.m, .slice x.A x.l x.c, .slice x.B x.bl x.bc] 40)
 have W1 := h_ hw1
 have C1 := h_ c1
 have HX := h_ (hx.chg c1)
 have HY := h_ (hy.chg c1)
 have HS := h_ (And.intro hs ht)
 have p0 := c1.at_ hp (by simp)
 obtain ⟨y0, y1, y2, y3, y4, y5, y6⟩ := ce7 p0
 obtain ⟨z0, z1, z2, z3, z4, z5, z6⟩ := ce7 b1
 clear hw1 c1 b1 hp hx hy hs ht p0
 generalize hv : aheadP f e = v at *
 have HV := h_ hv
 clear hv
 go_enter Tryz.func168, Tryz.ntmps168
 go_upto_region 1 with fail
 rw [← W1.out]
 generalize w.heap.size = g1 at *
 clear W1; go_wp2_with fail; clear y0 y1 y2 y3 y4 y5 y6 z0 z1 z2 z3 z4 z5 z6
 refine (evahead_any w1 y x f e HY.out HX.out HS.out.2 HS.out.1).mono ?_
 rintro r w2 ⟨rfl, hc⟩
 rw [HV.out]
 replace C1 := h_ (C1.out.trans hc)
 clear hc; go_wp2; go_ret
 exact ⟨rfl, C1.out⟩

set_option maxRecDepth 100000 in
theorem shindex_any (w : World) (A : Option Addr) (c : Nat) (xs : List EvT) (es : List EvP) (gp : Nat) (y : EvT) (f : EvP) (h : RdK evTy w A xs.length xs) (hx : EvsR w xs es) (hn : xs.length ≤ 100000) (hp : w.heap[gp]? = some (.cells #[.int .i64 y.n, .int .i64 y.s, .string y.p, .int .i64 y.k, .int .i64 y.m, .slice y.A y.l y.c, .slice y.B y.bl y.bc] 40 (0, 0))) (hy : EvR w y f) (hs : ∀ e ∈ es, EvSm e) (ht : EvSm f) :
  Calls Tryz.prog 82 #[.slice A xs.length c, .func (.func 168) #[] #[.pointer (some ⟨gp, 0, none⟩)]] w fun r w' => (∃ v : Int, r = .returned (.int .i64 v) ∧ IdxP es (fun e => aheadP f e) v) ∧ Chg [] w w' := by
 have HA := h_ h
 have HX := h_ hx
 have HN := h_ hn
 have HCALL := h_ (fun (wr : World) (RC : Chg [] w wr) (x : EvT) (e : EvP) (rx : EvR w x e) (he : e ∈ es) => shahead1_any wr gp x y e f (RC.at_ hp (by simp)) (rx.chg RC) (hy.chg RC) (hs e he) ht)
 have CLEARS : True := trivial
 clear CLEARS h hx hn
 go_enter Tryz.func82, Tryz.ntmps82
 go_wp2
 go_loopw [5, 8] (fun v5 v8 wr => ∃ (k : Nat), k ≤ xs.length ∧ v8 = .int .i64 k ∧ Hid (∀ e ∈ es.take k, (fun e => aheadP f e) e = false) ∧ Hid (Chg [] w wr)) (fun _ v8 _ => xs.length - (RowKit.intOf v8).toNat)
 case atStart => exact ⟨0, Nat.zero_le _, rfl, h_ (by simp), Chg.refl _ _⟩
 case round =>
  obtain ⟨k, hk, rfl, FN_, RC⟩ := hrel
  have i0 : (0 : Int) ≤ (k : Int) := by omega
  by_cases hlt : k < xs.length
  ·
   have i1 : (k : Int) < (xs.length : Int) := by omega
   have i3 : IntKind.i64.wrap ((k : Int) + 1) = (k : Int) + 1 := IntWalk.i64_in _ (by have := HN.out; omega)
   obtain ⟨x, e, ex, ee, rx⟩ := HX.out.at_ hlt
   obtain ⟨g, o, eA, _⟩ := HA.out.line (by omega)
   subst eA
   obtain ⟨z0, z1, z2, z3, z4, z5, z6⟩ := evCells (HA.out.chg RC.out (by simp)) ex
   have EE := h_ ee
   have CL := h_ (HCALL.out wr RC.out x e rx (List.mem_of_getElem? ee))
   clear ex ee rx; go_wp2_with fail
   refine CL.out.mono ?_
   rintro r w2 ⟨rfl, hc⟩
   have C2 := h_ (RC.out.trans hc)
   clear hc CL z0 z1 z2 z3 z4 z5 z6
   rcases hb : (fun e => aheadP f e) e with _ | _
   ·
    have FN1 := h_ (all_take_no FN_.out EE.out hb)
    dsimp only at hb
    rw [hb]
    clear hb FN_; go_wp2; go_round
    case rel => exact ⟨k + 1, by omega, by go_num, FN1, C2⟩
    case measure => simp [RowKit.intOf]; omega
   ·
    have AN : Hid (IdxP es (fun e => aheadP f e) (k : Int)) := h_ (.inr ⟨k, e, rfl, EE.out, hb, FN_.out⟩)
    dsimp only at hb
    rw [hb]
    clear hb FN_; go_wp2; go_ret
    exact ⟨⟨k, rfl, AN.out⟩, C2.out⟩
  ·
   obtain rfl : k = xs.length := by omega
   have ET : es.take xs.length = es := by rw [HX.out.1]; exact List.take_length
   rw [ET] at FN_
   clear ET
   have i1 : ¬ (xs.length : Int) < (xs.length : Int) := by omega
   go_wp2; go_ret
   exact ⟨⟨-1, rfl, .inl ⟨rfl, FN_.out⟩⟩, RC.out⟩

set_option maxRecDepth 100000 in
theorem shcontains_any (w : World) (A : Option Addr) (c : Nat) (xs : List EvT) (es : List EvP) (gp : Nat) (y : EvT) (f : EvP) (h : RdK evTy w A xs.length xs) (hx : EvsR w xs es) (hn : xs.length ≤ 100000) (hp : w.heap[gp]? = some (.cells #[.int .i64 y.n, .int .i64 y.s, .string y.p, .int .i64 y.k, .int .i64 y.m, .slice y.A y.l y.c, .slice y.B y.bl y.bc] 40 (0, 0))) (hy : EvR w y f) (hs : ∀ e ∈ es, EvSm e) (ht : EvSm f) :
  Calls Tryz.prog 57 #[.slice A xs.length c, .func (.func 168) #[] #[.pointer (some ⟨gp, 0, none⟩)]] w fun r w' => r = .returned (.bool (es.any (fun e => aheadP f e))) ∧ Chg [] w w' := by
 have IX := h_ (shindex_any w A c xs es gp y f h hx hn hp hy hs ht)
 clear h hx hn
 generalize hv : es.any (fun e => aheadP f e) = v
 have HV := h_ hv
 clear hv
 go_enter Tryz.func57, Tryz.ntmps57
 go_wp2_with fail
 refine IX.out.mono ?_
 rintro e w2 ⟨⟨u, rfl, hu⟩, hc⟩
 have C := h_ hc
 have HU : Hid (decide ((0 : Int) ≤ u) = v) := h_ (by rw [← HV.out]; exact hu.any.symm)
 clear hu hc; go_wp2; go_ret
 exact ⟨by rw [HU.out]; rfl, C.out⟩

set_option maxRecDepth 100000 in
theorem shahead_any (w : World) (A : Option Addr) (c : Nat) (xs : List EvT) (es : List EvP) (y : EvT) (f : EvP) (h : RdK evTy w A xs.length xs) (hx : EvsR w xs es) (hn : xs.length ≤ 100000) (hy : EvR w y f) (hs : ∀ e ∈ es, EvSm e) (ht : EvSm f) :
  Calls Tryz.prog 113 #[.agg #[.int .i64 y.n, .int .i64 y.s, .string y.p, .int .i64 y.k, .int .i64 y.m, .slice y.A y.l y.c, .slice y.B y.bl y.bc], .slice A xs.length c] w fun r w' => r = .returned (.bool (es.any (fun e => aheadP f e))) ∧ Chg [] w w' := by
 obtain ⟨w1, hw1, c1, b1⟩ := news1 w (.cells #[.int .i64 y.n, .int .i64 y.s, .string y.p, .int .i64 y.k, .int .i64 y.m, .slice y.A y.l y.c, .slice y.B y.bl y.bc] 40)
 have W1 := h_ hw1
 have C1 := h_ c1
 have CC := h_ (shcontains_any w1 A c xs es w.heap.size y f (h.chg c1 (by simp)) (hx.chg c1) hn b1 (hy.chg c1) hs ht)
 clear hw1 c1 b1 h hx hn hy hs ht
 generalize hv : es.any (fun e => aheadP f e) = v at *
 go_enter Tryz.func113, Tryz.ntmps113
 go_upto_region 1 with fail
 rw [← W1.out]
 generalize w.heap.size = g1 at *
 clear W1 hv; go_wp2_with fail
 refine CC.out.mono ?_
 rintro r w2 ⟨rfl, hc⟩
 replace C1 := h_ (C1.out.trans hc)
 clear hc CC; go_wp2; go_ret
 exact ⟨rfl, C1.out⟩
end
section
open Go.RowKit Go.Lib


set_option maxRecDepth 100000 in
theorem shwithout1_any (w : World) (gq : Nat) (T : TypeId) (gp : Nat) (x y : EvT) (e f : EvP) (hq : w.heap[gq]? = some (.cells #[.func (.func 162) #[] #[]] T (0, 0))) (hp : w.heap[gp]? = some (.cells #[.int .i64 y.n, .int .i64 y.s, .string y.p, .int .i64 y.k, .int .i64 y.m, .slice y.A y.l y.c, .slice y.B y.bl y.bc] 40 (0, 0))) (hx : EvR w x e) (hy : EvR w y f) (hs : EvSm e) (ht : EvSm f) :
  Calls Tryz.prog 194 #[.agg #[.int .i64 x.n, .int .i64 x.s, .string x.p, .int .i64 x.k, .int .i64 x.m, .slice x.A x.l x.c, .slice x.B x.bl x.bc], .pointer (some ⟨gq, 0, none⟩), .pointer (some ⟨gp, 0, none⟩)] w fun r w' => r = .returned (.bool (aheadP e f)) ∧ Chg [] w w' := by
 obtain ⟨w1, hw1, c1, b1⟩ := news1 w (.cells #[.int .i64 x.n, .int .i64 x.s, .string x.p, .int .i64 x.k, .int .i64 x.m, .slice x.A x.l x.c, .slice x.B x.bl x.bc] 40)
 have W1 := h_ hw1
 have C1 := h_ c1
 have CC := h_ (evahead_any w1 x y e f (hx.chg c1) (hy.chg c1) hs ht)
 have p0 := c1.at_ hp (by simp)
 have p1 := c1.at_ hq (by simp)
 obtain ⟨y0, y1, y2, y3, y4, y5, y6⟩ := ce7 p0
 obtain ⟨z0, z1, z2, z3, z4, z5, z6⟩ := ce7 b1
 have u0 := ce1 p1
 clear hw1 c1 b1 hp hq hx hy hs ht p0 p1
 generalize aheadP e f = v at *
 go_enter Tryz.func194, Tryz.ntmps194
 go_upto_region 1 with fail
 rw [← W1.out]
 generalize w.heap.size = g1 at *
 clear W1; go_wp2_with fail; clear y0 y1 y2 y3 y4 y5 y6 z0 z1 z2 z3 z4 z5 z6 u0
 refine CC.out.mono ?_
 rintro r w2 ⟨rfl, hc⟩
 replace C1 := h_ (C1.out.trans hc)
 clear hc CC; go_wp2; go_ret
 exact ⟨rfl, C1.out⟩

set_option maxRecDepth 100000 in
theorem shindexw_any (w : World) (A : Option Addr) (c : Nat) (xs : List EvT) (es : List EvP) (gq : Nat) (T : TypeId) (gp : Nat) (y : EvT) (f : EvP) (h : RdK evTy w A xs.length xs) (hx : EvsR w xs es) (hn : xs.length ≤ 100000) (hq : w.heap[gq]? = some (.cells #[.func (.func 162) #[] #[]] T (0, 0))) (hp : w.heap[gp]? = some (.cells #[.int .i64 y.n, .int .i64 y.s, .string y.p, .int .i64 y.k, .int .i64 y.m, .slice y.A y.l y.c, .slice y.B y.bl y.bc] 40 (0, 0))) (hy : EvR w y f) (hs : ∀ e ∈ es, EvSm e) (ht : EvSm f) :
  Calls Tryz.prog 82 #[.slice A xs.length c, .func (.func 194) #[] #[.pointer (some ⟨gq, 0, none⟩), .pointer (some ⟨gp, 0, none⟩)]] w fun r w' => (∃ v : Int, r = .returned (.int .i64 v) ∧ IdxP es (fun e => aheadP e f) v) ∧ Chg [] w w' := by
 have HA := h_ h
 have HX := h_ hx
 have HN := h_ hn
 have HCALL := h_ (fun (wr : World) (RC : Chg [] w wr) (x : EvT) (e : EvP) (rx : EvR w x e) (he : e ∈ es) => shwithout1_any wr gq T gp x y e f (RC.at_ hq (by simp)) (RC.at_ hp (by simp)) (rx.chg RC) (hy.chg RC) (hs e he) ht)
 have CLEARS : True := trivial
 clear CLEARS h hx hn
 go_enter Tryz.func82, Tryz.ntmps82
 go_wp2
 go_loopw [5, 8] (fun v5 v8 wr => ∃ (k : Nat), k ≤ xs.length ∧ v8 = .int .i64 k ∧ Hid (∀ e ∈ es.take k, (fun e => aheadP e f) e = false) ∧ Hid (Chg [] w wr)) (fun _ v8 _ => xs.length - (RowKit.intOf v8).toNat)
 case atStart => exact ⟨0, Nat.zero_le _, rfl, h_ (by simp), Chg.refl _ _⟩
 case round =>
  obtain ⟨k, hk, rfl, FN_, RC⟩ := hrel
  have i0 : (0 : Int) ≤ (k : Int) := by omega
  by_cases hlt : k < xs.length
  ·
   have i1 : (k : Int) < (xs.length : Int) := by omega
   have i3 : IntKind.i64.wrap ((k : Int) + 1) = (k : Int) + 1 := IntWalk.i64_in _ (by have := HN.out; omega)
   obtain ⟨x, e, ex, ee, rx⟩ := HX.out.at_ hlt
   obtain ⟨g, o, eA, _⟩ := HA.out.line (by omega)
   subst eA
   obtain ⟨z0, z1, z2, z3, z4, z5, z6⟩ := evCells (HA.out.chg RC.out (by simp)) ex
   have EE := h_ ee
   have CL := h_ (HCALL.out wr RC.out x e rx (List.mem_of_getElem? ee))
   clear ex ee rx; go_wp2_with fail
   refine CL.out.mono ?_
   rintro r w2 ⟨rfl, hc⟩
   have C2 := h_ (RC.out.trans hc)
   clear hc CL z0 z1 z2 z3 z4 z5 z6
   rcases hb : (fun e => aheadP e f) e with _ | _
   ·
    have FN1 := h_ (all_take_no FN_.out EE.out hb)
    dsimp only at hb
    rw [hb]
    clear hb FN_; go_wp2; go_round
    case rel => exact ⟨k + 1, by omega, by go_num, FN1, C2⟩
    case measure => simp [RowKit.intOf]; omega
   ·
    have AN : Hid (IdxP es (fun e => aheadP e f) (k : Int)) := h_ (.inr ⟨k, e, rfl, EE.out, hb, FN_.out⟩)
    dsimp only at hb
    rw [hb]
    clear hb FN_; go_wp2; go_ret
    exact ⟨⟨k, rfl, AN.out⟩, C2.out⟩
  ·
   obtain rfl : k = xs.length := by omega
   have ET : es.take xs.length = es := by rw [HX.out.1]; exact List.take_length
   rw [ET] at FN_
   clear ET
   have i1 : ¬ (xs.length : Int) < (xs.length : Int) := by omega
   go_wp2; go_ret
   exact ⟨⟨-1, rfl, .inl ⟨rfl, FN_.out⟩⟩, RC.out⟩
end
section
open Go.RowKit Go.Lib

def spanB (x : Int × Int × Int) : List UInt8 := UInt8.ofNat x.1.toNat :: (be 4 x.2.1.toNat ++ be 4 x.2.2.toNat)
theorem spanB_len (x : Int × Int × Int) : (spanB x).length = 9 := by simp [spanB, be_len]
def spansB (xs : List (Int × Int × Int)) : List UInt8 := UInt8.ofNat (xs.length / 256) :: UInt8.ofNat xs.length :: xs.flatMap spanB
theorem four_cells {n : Int} (h0 : 0 ≤ n) (h1 : n ≤ 2147483647) : [Value.int .u8 (n / 16777216 % 256), Value.int .u8 (n / 65536 % 256), Value.int .u8 (n / 256 % 256), Value.int .u8 (n % 256)] = (be 4 n.toNat).map bv := by
 have e : ∀ a b : Int, a = b → Value.int .u8 a = Value.int .u8 b := fun _ _ h => by rw [h]
 simp only [be, List.map_cons, List.map_nil, bv, UInt8.toNat_ofNat']
 rw [e (n / 16777216 % 256) _ (show n / 16777216 % 256 = ((n.toNat / 256 ^ 3 % 2 ^ 8 : Nat) : Int) by omega), e (n / 65536 % 256) _ (show n / 65536 % 256 = ((n.toNat / 256 ^ 2 % 2 ^ 8 : Nat) : Int) by omega),
  e (n / 256 % 256) _ (show n / 256 % 256 = ((n.toNat / 256 ^ 1 % 2 ^ 8 : Nat) : Int) by omega), e (n % 256) _ (show n % 256 = ((n.toNat / 256 ^ 0 % 2 ^ 8 : Nat) : Int) by omega)]
theorem Bs.row {w : World} {g : Nat} {ys : List UInt8} (h : w.heap[g]? = some (.cells (ys.map bv).toArray 5 (0, 0))) (hl : ys.length ≤ maxLen) : Bs w (some ⟨g, 0, none⟩) ys.length ys :=
 (OwnB.of (full := ys) (c := ys.length) h (Nat.le_refl _) hl rfl (List.take_length)).reads
theorem pafour_any (w : World) (n : Int) (h0 : 0 ≤ n) (h1 : n ≤ 2147483647) :
  Calls Tryz.prog 127 #[.int .i64 n] w fun e w' => e = .returned (.slice (some ⟨w.heap.size, 0, none⟩) 4 4) ∧ Bs w' (some ⟨w.heap.size, 0, none⟩) 4 (be 4 n.toNat) ∧ Chg [] w w' := by
 have HC := h_ (four_cells h0 h1)
 clear h0 h1
 go_enter Tryz.func127, Tryz.ntmps127
 go_wp2; go_ret
 refine ⟨rfl, ?_, (Chg.refl _ _).alloc _⟩
 have := Bs.row (ys := be 4 n.toNat) (w := w.alloc (.cells ((be 4 n.toNat).map bv).toArray 5)) (g := w.heap.size) (heap_alloc_new w _) (by rw [be_len]; decide)
 rw [be_len] at this
 have e := HC.out
 rw [← e] at this
 exact this
end
section
open Go.RowKit Go.Lib

theorem okFrom_fine : ∀ (p : Option (Int × Int × Int)) (xs : List (Int × Int × Int)), okFrom p xs = true → ∀ x ∈ xs, FineS x.1 x.2.1 x.2.2
 | _, [], _, x, hx => by simp at hx
 | none, y :: l, h, x, hx => by
  simp only [okFrom, Bool.and_eq_true, decide_eq_true_eq] at h
  rcases List.mem_cons.1 hx with rfl | hx
  ·
   exact h.1
  ·
   exact okFrom_fine _ l h.2 x hx
 | some _, y :: l, h, x, hx => by
  simp only [okFrom, Bool.and_eq_true, decide_eq_true_eq] at h
  rcases List.mem_cons.1 hx with rfl | hx
  ·
   exact h.1.1
  ·
   exact okFrom_fine _ l h.2 x hx
theorem chkS_zero {xs : List (Int × Int × Int)} (h : chkS xs = 0) : xs.length ≤ 4000 ∧ ∀ x ∈ xs, FineS x.1 x.2.1 x.2.2 := by
 unfold chkS at h
 split at h
 ·
  rename_i hc; exact ⟨hc.1, okFrom_fine _ _ hc.2⟩
 ·
  cases h
theorem chkS_odd {xs : List (Int × Int × Int)} (h : chkS xs ≠ 0) : chkS xs = 2 := by
 unfold chkS at h ⊢
 split at h
 ·
  exact absurd rfl h
 ·
  rename_i hc; rw [if_neg hc]
def bytesO (xs : List (Int × Int × Int)) : List UInt8 := if chkS xs = 0 then spansB xs else []
def headB (n : Nat) : List UInt8 := [UInt8.ofNat (n / 256), UInt8.ofNat n]
theorem head_cells {n : Nat} (h : n ≤ 4000) : [Value.int .u8 ((n : Int) / 256), Value.int .u8 ((n : Int) % 256)] = (headB n).map bv := by
 have e : ∀ a b : Int, a = b → Value.int .u8 a = Value.int .u8 b := fun _ _ h => by rw [h]
 simp only [headB, List.map_cons, List.map_nil, bv, UInt8.toNat_ofNat']
 rw [e ((n : Int) / 256) _ (show (n : Int) / 256 = ((n / 256 % 2 ^ 8 : Nat) : Int) by omega), e ((n : Int) % 256) _ (show (n : Int) % 256 = ((n % 2 ^ 8 : Nat) : Int) by omega)]
theorem takeB {xs : List (Int × Int × Int)} {k : Nat} {x : Int × Int × Int} (h : xs[k]? = some x) (hd : List UInt8) : hd ++ (xs.take (k + 1)).flatMap spanB = (hd ++ (xs.take k).flatMap spanB) ++ spanB x := by
 rw [List.take_add_one, h]
 simp
theorem flat_len (l : List (Int × Int × Int)) : (l.flatMap spanB).length = 9 * l.length := by
 induction l with
 | nil => rfl
 | cons x l ih => rw [List.flatMap_cons, List.length_append, spanB_len, ih, List.length_cons]; omega
end
section
open Go.RowKit Go.Lib
def zeroRowP (n : Nat) : Array Value := ((List.replicate n (0 : UInt8)).map bv).toArray
theorem run_mkP (n : Nat) (c : Int) (hc : c = (n : Int)) (h : n ≤ 140737488351232) (w : World) : (Instr.makeSlice 36 (.int .i64 0) (.int .i64 c)).run Tryz.prog w = .ok (.slice (some ⟨w.heap.size, 0, none⟩) 0 n) (w.alloc (.cells (zeroRowP n) 5)) := by
 subst hc
 obtain ⟨i0, hi, hz0, hz1, hz2⟩ := info_parts info8
 have hr := run_make (P := Tryz.prog) w 36 5 i0 (.int .u8 0) Tryz.underlying36 hi hz0 .i64 .i64 0 n (by omega) (by omega) (by rw [hz2]; omega) (by omega)
 rw [hr, hz1, Int.toNat_natCast, Nat.mul_one]
 have e : madeCells (Value.int .u8 0).cells n = zeroRowP n := by
  apply Array.toList_inj.1
  show (madeCells #[.int .u8 0] n).toList = _
  rw [toList_madeCells_one]
  simp [zeroRowP, bv]
 rw [e]
 rfl
theorem OwnB.zeros {w : World} (n : Nat) (h : n ≤ maxLen) : OwnB (w.alloc (.cells (zeroRowP n) 5)) (some ⟨w.heap.size, 0, none⟩) n [] :=
 .of (full := List.replicate n 0) (heap_alloc_new w _) (Nat.zero_le _) h (by simp) rfl
theorem app_own {w w6 w7 : World} {B A2 : Option Addr} (hB : ∀ a, B = some a → w.heap.size ≤ a.block) (hC : Chg [] w w6) (d2 : w6.grownBy w7 (B.map (·.block))) (e2 : A2 = B ∨ A2 = some ⟨w6.heap.size, 0, none⟩) : (∀ a, A2 = some a → w.heap.size ≤ a.block) ∧ Chg [] w w7 := by
 refine ⟨?_, hC.grown d2 (fun i hi => ?_)⟩
 ·
  rcases e2 with rfl | rfl
  ·
   exact hB
  ·
   rintro a ⟨⟩; exact hC.size
 ·
  cases B with
  | none => simp at hi
  | some a => simp at hi; subst hi; exact .inr (hB a rfl)
theorem Bs.byte {w : World} {g : Nat} {v : Int} {c : UInt8} (hv : Value.int .u8 v = bv c) (h : w.heap[g]? = some (.cells #[.int .u8 v] 5 (0, 0))) : Bs w (some ⟨g, 0, none⟩) 1 [c] := by
 refine Bs.row (ys := [c]) ?_ (show 1 ≤ maxLen by decide)
 rw [h, hv]
 rfl
set_option maxRecDepth 100000 in
theorem pabytes_any (w : World) (A : Option Addr) (n c : Nat) (xs : List (Int × Int × Int)) (h : RdK spanTy w A n xs) (hn : n ≤ 140737488351232) :
  Calls Tryz.prog 85 #[.slice A n c] w fun e w' => ∃ A' c', e = .returned (.tuple #[.slice A' (bytesO xs).length c', .int .i64 (chkS xs)]) ∧ Fresh w w' A' c' (bytesO xs) := by
 have hl := h.len
 subst hl
 have r1 := pacheck_any w A xs.length c xs h hn
 by_cases hk : chkS xs = 0
 ·
  have hx := chkS_zero hk
  rw [hk] at r1
  rw [show bytesO xs = spansB xs by unfold bytesO; rw [if_pos hk], hk]
  have HX := h_ h
  have HF := h_ hx.2
  have hlen := hx.1
  have R1 := h_ r1
  have hmk := fun W => run_mkP (2 + 9 * xs.length) (2 + 9 * (xs.length : Int)) (by omega) (by omega) W
  clear h hk hx r1 hn
  go_enter Tryz.func85, Tryz.ntmps85
  go_wp2_with fail
  refine R1.out.mono ?_
  rintro e w1 ⟨rfl, hc⟩
  have C := h_ hc
  clear hc R1
  obtain ⟨w2, hw2, c2, b2⟩ := news1 w1 (.cells (zeroRowP (2 + 9 * xs.length)) 5)
  have W2 := h_ hw2
  have O2 : Hid (OwnB w2 (some ⟨w1.heap.size, 0, none⟩) (2 + 9 * xs.length) []) := h_ (by rw [hw2]; exact OwnB.zeros _ (by unfold maxLen; omega))
  have C2 := h_ (C.out.trans c2)
  have SZ := h_ C.out.size
  clear hw2 c2 b2 C
  go_upto_region 5 with fail
  rw [← W2.out]
  clear W2 hmk
  generalize w1.heap.size = s1 at *
  obtain ⟨w3, hw3, c3, b3⟩ := news1 w2 (.cells #[.int .u8 ((xs.length : Int) / 256), .int .u8 ((xs.length : Int) % 256)] 5)
  have W3 := h_ hw3
  have C3 := h_ (C2.out.trans c3)
  have O3 := h_ (O2.out.chg c3 (by simp))
  have RD := h_ (show Bs w3 (some ⟨w2.heap.size, 0, none⟩) 2 (headB xs.length) from Bs.row (ys := headB xs.length) (by rw [← head_cells hlen]; exact b3) (show 2 ≤ maxLen by decide))
  have BD : Hid (0 + 2 ≤ 140737488355327) := h_ (by decide)
  clear hw3 c3 b3
  go_wp2_with (at_builtin; rw [← W3.out]; refine wpList_app rfl _ _ rfl rfl O3.out rfl rfl RD.out BD.out ?_; intro A2 c2 w4 u2 d2 e2)
  have AO := app_own (w := w) (by rintro a ⟨⟩; exact SZ.out) C3.out d2 e2
  have OI := h_ (And.intro u2 AO)
  clear u2 d2 e2 AO W3 C3 O3 RD BD C2 O2; go_wp2
  go_loopw [5, 30] (fun v5 v30 wr => ∃ (k : Nat) (B : Option Addr) (cc : Nat), k ≤ xs.length ∧ v5 = .slice B (2 + 9 * k) cc ∧ v30 = .int .i64 k ∧ Hid (OwnB wr B cc (headB xs.length ++ (xs.take k).flatMap spanB) ∧ (∀ a, B = some a → w.heap.size ≤ a.block) ∧ Chg [] w wr)) (fun _ v30 _ => xs.length - (RowKit.intOf v30).toNat)
  case atStart => exact ⟨0, A2, c2, Nat.zero_le _, rfl, rfl, by simpa using OI.out.1, OI.out.2.1, OI.out.2.2⟩
  case round =>
   clear OI
   obtain ⟨k, B, cc, hk, rfl, rfl, HI⟩ := hrel
   generalize wr = w5 at *
   clear wr
   by_cases hlt : k < xs.length
   ·
    obtain ⟨g, o, eA, _⟩ := HX.out.line (by omega)
    subst eA
    have ex := List.getElem?_eq_getElem hlt
    have hfin := HF.out _ (List.getElem_mem hlt)
    generalize xs[k] = x at *
    have EX := h_ ex
    have FN := h_ hfin
    obtain ⟨p0, p1, p2⟩ := spanCells (HX.out.chg HI.out.2.2 (by simp)) ex
    have i0 : (0 : Int) ≤ (k : Int) := by omega
    have i1 : (k : Int) < (xs.length : Int) := by omega
    clear ex hfin
    obtain ⟨w6, hw6, c6, b6⟩ := news1 w5 (.cells #[.int .i64 x.1, .int .i64 x.2.1, .int .i64 x.2.2] 81)
    go_upto_region 9 with fail
    rw [← hw6]
    have P6 := h_ b6
    have C6 := h_ (HI.out.2.2.trans c6)
    have O6 := h_ (HI.out.1.chg c6 (by simp))
    have B6 := h_ HI.out.2.1
    have L6 := h_ (show (headB xs.length ++ (xs.take k).flatMap spanB).length = 2 + 9 * k by rw [List.length_append, flat_len, List.length_take, Nat.min_eq_left hk]; rfl)
    clear hw6 c6 b6 p0 p1 p2
    generalize w5.heap.size = s5 at *
    generalize hy : headB xs.length ++ (xs.take k).flatMap spanB = ys at *
    have HY := h_ hy
    clear hy
    have z0 := ce1 P6.out
    obtain ⟨w7, hw, c7, b7⟩ := news1 w6 (.cells #[.int .u8 (x.1 % 256)] 5)
    have WN := h_ hw
    have RD := h_ (show Bs w7 (some ⟨w6.heap.size, 0, none⟩) 1 [UInt8.ofNat x.1.toNat] from Bs.byte (by
     have hf := FN.out
     unfold FineS at hf
     unfold bv
     rw [UInt8.toNat_ofNat']
     congr 1
     omega) b7)
    have C7 := h_ (C6.out.trans c7)
    have O7 := h_ (O6.out.chg c7 (by simp))
    have P7 := h_ (c7.at_ P6.out (by simp))
    clear hw c7 b7
    have BD := h_ (show 2 + 9 * k + 1 ≤ 140737488355327 by omega)
    go_wp2_with (at_builtin; rw [← WN.out]; refine wpList_app rfl _ _ rfl rfl O7.out L6.out rfl RD.out BD.out ?_; intro A3 cc0 w8 u2 d2 e2; have P6 := h_ (grown_at d2 P7.out (O7.out.ne P7.out (by decide))); have z1 := cell_of P6.out 1; simp only [gA, gY, gZ] at z1)
    have AO := app_own (w := w) B6.out C7.out d2 e2
    have O6 := h_ u2
    have L6 := h_ (show (ys ++ [UInt8.ofNat x.1.toNat]).length = 2 + 9 * k + 1 by rw [List.length_append, L6.out]; simp [be_len])
    have B6 := h_ AO.1
    have C6 := h_ AO.2
    clear u2 d2 e2 AO C7 O7 P7 RD BD z0 WN
    refine (pafour_any _ x.2.1 (by have := FN.out; unfold FineS at this; omega) (by have := FN.out; unfold FineS at this; omega)).mono ?_
    rintro e w9 ⟨rfl, hb, c7⟩
    have RD := h_ hb
    have C7 := h_ (C6.out.trans c7)
    have O7 := h_ (O6.out.chg c7 (by simp))
    have P7 := h_ (c7.at_ P6.out (by simp))
    clear hb c7
    have BD := h_ (show 2 + 9 * k + 1 + 4 ≤ 140737488355327 by omega)
    go_wp2_with (at_builtin; refine wpList_app rfl _ _ rfl rfl O7.out L6.out rfl RD.out BD.out ?_; intro A4 cc1 w10 u2 d2 e2; have P6 := h_ (grown_at d2 P7.out (O7.out.ne P7.out (by decide))); have z2 := cell_of P6.out 2; simp only [gA, gY, gZ] at z2)
    have AO := app_own (w := w) B6.out C7.out d2 e2
    have O6 := h_ u2
    have L6 := h_ (show (ys ++ [UInt8.ofNat x.1.toNat] ++ be 4 x.2.1.toNat).length = 2 + 9 * k + 1 + 4 by rw [List.length_append, L6.out]; simp [be_len])
    have B6 := h_ AO.1
    have C6 := h_ AO.2
    clear u2 d2 e2 AO C7 O7 P7 RD BD z1
    refine (pafour_any _ x.2.2 (by have := FN.out; unfold FineS at this; omega) (by have := FN.out; unfold FineS at this; omega)).mono ?_
    rintro e w11 ⟨rfl, hb, c7⟩
    have RD := h_ hb
    have C7 := h_ (C6.out.trans c7)
    have O7 := h_ (O6.out.chg c7 (by simp))
    have P7 := h_ (c7.at_ P6.out (by simp))
    clear hb c7
    have BD := h_ (show 2 + 9 * k + 1 + 4 + 4 ≤ 140737488355327 by omega)
    go_wp2_with (at_builtin; refine wpList_app rfl _ _ rfl rfl O7.out L6.out rfl RD.out BD.out ?_; intro A5 cc2 w12 u2 d2 e2; have P6 := h_ (grown_at d2 P7.out (O7.out.ne P7.out (by decide))))
    have AO := app_own (w := w) B6.out C7.out d2 e2
    have O6 := h_ u2
    have L6 := h_ (show (ys ++ [UInt8.ofNat x.1.toNat] ++ be 4 x.2.1.toNat ++ be 4 x.2.2.toNat).length = 2 + 9 * k + 1 + 4 + 4 by rw [List.length_append, L6.out]; simp [be_len])
    have B6 := h_ AO.1
    have C6 := h_ AO.2
    clear u2 d2 e2 AO C7 O7 P7 RD BD z2
    refine ⟨⟨k + 1, A5, cc2, by omega, by congr 1, by go_num, ?_, B6.out, C6.out⟩, by simp [RowKit.intOf]; omega⟩
    rw [takeB EX.out, HY.out]
    have hq := O6.out
    simpa [spanB] using hq
   ·
    obtain rfl : k = xs.length := by omega
    have hb : headB xs.length ++ (xs.take xs.length).flatMap spanB = spansB xs := by rw [List.take_length]; rfl
    have hl2 : (spansB xs).length = 2 + 9 * xs.length := by rw [← hb, List.length_append, flat_len, List.take_length]; rfl
    have HR := HI.out
    rw [hb] at HR
    rw [← hl2] at *
    have HR := h_ HR
    clear hb hl2; go_wp2; go_ret2
    exact ⟨B, cc, rfl, HR.out⟩
 ·
  have h2 := chkS_odd hk
  rw [h2] at r1
  rw [show bytesO xs = [] by unfold bytesO; rw [if_neg hk], h2]
  have R1 := h_ r1
  clear h hk r1 hn h2
  go_enter Tryz.func85, Tryz.ntmps85
  go_wp2_with fail
  refine R1.out.mono ?_
  rintro e w1 ⟨rfl, hc⟩
  have C := h_ hc
  clear hc R1; go_wp2; go_ret2
  exact ⟨none, 0, rfl, OwnB.none_ _, by simp, C.out⟩
end
section
open Go.RowKit Go.Lib

def numB (ys : List UInt8) : Nat := ys.foldl (fun n x => n * 256 + x.toNat) 0
theorem numB_snoc (ys : List UInt8) (x : UInt8) : numB (ys ++ [x]) = numB ys * 256 + x.toNat := by simp [numB]
theorem numB_lt : ∀ (k : Nat) (ys : List UInt8), ys.length ≤ k → numB ys < 256 ^ k
 | 0, ys, h => by
  have : ys = [] := List.length_eq_zero_iff.1 (by omega)
  subst this
  simp [numB]
 | k + 1, ys, h => by
  rcases List.eq_nil_or_concat ys with rfl | ⟨l, x, rfl⟩
  ·
   simp only [numB, List.foldl_nil]; exact Nat.pow_pos (by decide)
  ·
   rw [List.concat_eq_append, numB_snoc]
   have h1 := numB_lt k l (by simp at h; omega)
   have h2 : x.toNat < 256 := x.toNat_lt
   rw [Nat.pow_succ]
   omega
theorem or8P (a b : Nat) (hb : b < 256) (h : a < 4294967296) : bits .or .i64 ((a : Int) * 256) (b : Int) = (a : Int) * 256 + (b : Int) := by
 have h1 : (BitVec.ofInt 64 ((a * 256 : Nat) : Int)).toNat = a * 256 := by
  rw [BitVec.ofInt_natCast, BitVec.toNat_ofNat]; exact Nat.mod_eq_of_lt (by omega)
 have h2 : (BitVec.ofInt 64 (b : Int)).toNat = b := by
  rw [BitVec.ofInt_natCast, BitVec.toNat_ofNat]; exact Nat.mod_eq_of_lt (by omega)
 have hj : a * 256 ||| b = a * 256 + b := by
  have := Nat.shiftLeft_add_eq_or_of_lt (b := b) (i := 8) (by omega) a
  rw [Nat.shiftLeft_eq] at this
  exact this.symm
 rw [show (a : Int) * 256 = ((a * 256 : Nat) : Int) by omega]
 show IntKind.i64.wrap ((BitVec.ofInt 64 ((a * 256 : Nat) : Int) ||| BitVec.ofInt 64 (b : Int)).toNat : Int) = _
 rw [BitVec.toNat_or, h1, h2, hj, IntWalk.i64_in _ (by omega)]
 omega
set_option maxRecDepth 100000 in
theorem pnum1_any (w : World) (a b : Nat) (hb : b < 256) (ha : a < 4294967296) :
  Calls Tryz.prog 180 #[.int .i64 (a : Int), .int .u8 (b : Int)] w fun e w' => e = .returned (.int .i64 ((a * 256 + b : Nat) : Int)) ∧ Chg [] w w' := by
 have e1 := or8P a b hb ha
 go_enter Tryz.func180, Tryz.ntmps180
 go_wp2; go_ret
 exact ⟨by simp, Chg.refl _ _⟩
set_option maxRecDepth 100000 in
theorem pfoldb_any (w : World) (A : Option Addr) (n c : Nat) (ys : List UInt8) (h : Bs w A n ys) (hn : ys.length ≤ 4) :
  Calls Tryz.prog 179 #[.slice A n c, .int .i64 0, .func (.func 180) #[] #[]] w fun e w' => e = .returned (.int .i64 (numB ys : Int)) ∧ Chg [] w w' := by
 have hl := h.len
 subst hl
 have HX := h_ h
 clear h
 go_enter Tryz.func179, Tryz.ntmps179
 go_wp2
 go_loopw [1, 11] (fun v1 v11 wr => ∃ (k : Nat), k ≤ ys.length ∧ v1 = .int .i64 (numB (ys.take k) : Int) ∧ v11 = .int .i64 k ∧ Hid (Chg [] w wr)) (fun _ v11 _ => ys.length - (RowKit.intOf v11).toNat)
 case atStart => exact ⟨0, Nat.zero_le _, rfl, rfl, Chg.refl _ _⟩
 case round =>
  obtain ⟨k, hk, rfl, rfl, HI⟩ := hrel
  generalize wr = w4 at *
  clear wr
  by_cases hlt : k < ys.length
  ·
   have hb4 := HX.out.chg HI.out (by simp)
   have ex := List.getElem?_eq_getElem hlt
   obtain ⟨ad, eA, hc0⟩ := hb4.cells 0 _ (List.getElem?_eq_getElem (show 0 < ys.length by omega))
   have hsp := World.cell?_spot hc0
   obtain ⟨g, o, sp⟩ := ad
   have hsp : sp = none := by simpa [Addr.add] using hsp
   subst hsp eA
   clear hc0
   obtain ⟨ad, eA, hc⟩ := hb4.cells k _ ex
   cases eA
   generalize ys[k] = x at *
   rw [add_lit] at hc
   have i0 : (0 : Int) ≤ (k : Int) := by omega
   have i1 : (k : Int) < (ys.length : Int) := by omega
   have hnm := numB_lt 3 (ys.take k) (by rw [List.length_take]; omega)
   have HN := h_ (show numB (ys.take k) < 4294967296 by omega)
   have e2 : numB (ys.take (k + 1)) = numB (ys.take k) * 256 + x.toNat := by rw [List.take_add_one, ex]; exact numB_snoc _ _
   have E2 := h_ e2
   clear hb4 ex hnm e2
   generalize numB (ys.take k) = m at *
   unfold bv at hc
   go_wp2_with fail
   refine (pnum1_any _ m x.toNat x.toNat_lt HN.out).mono ?_
   rintro e w5 ⟨rfl, hcc⟩
   have CE := h_ (HI.out.trans hcc)
   clear hcc hc; go_wp2; go_round
   case rel => exact ⟨k + 1, by omega, by rw [E2.out, Int.natCast_add, Int.natCast_mul]; rfl, by go_num, CE.out⟩
   case measure => simp [RowKit.intOf]; omega
  ·
   obtain rfl : k = ys.length := by omega
   rw [show ys.take ys.length = ys from List.take_length]
   go_wp2; go_ret
   exact ⟨rfl, HI.out⟩
theorem panumber_any (w : World) (A : Option Addr) (n c : Nat) (ys : List UInt8) (h : Bs w A n ys) (hn : ys.length ≤ 4) :
  Calls Tryz.prog 138 #[.slice A n c] w fun e w' => e = .returned (.int .i64 (numB ys : Int)) ∧ Chg [] w w' := by
 have HX := h_ h
 have HN := h_ hn
 clear h hn
 go_enter Tryz.func138, Tryz.ntmps138
 go_wp2_with fail
 refine (pfoldb_any _ A n c ys HX.out HN.out).mono ?_
 rintro e w1 ⟨rfl, hc⟩
 have C := h_ hc
 clear hc; go_wp2; go_ret
 exact ⟨rfl, C.out⟩
end
section
open Go.RowKit Go.Lib
def spanAt (ys : List UInt8) (i : Nat) : Int × Int × Int := ((numB ((ys.drop i).take 1) : Int), (numB ((ys.drop (i + 1)).take 4) : Int), (numB ((ys.drop (i + 5)).take 4) : Int))
def spansR (ys : List UInt8) (k : Nat) : List (Int × Int × Int) := (List.range k).map fun i => spanAt ys (2 + 9 * i)
theorem spansR_succ (ys : List UInt8) (k : Nat) : spansR ys (k + 1) = spansR ys k ++ [spanAt ys (2 + 9 * k)] := by simp [spansR, List.range_succ]
theorem spansR_len (ys : List UInt8) (k : Nat) : (spansR ys k).length = k := by simp [spansR]
theorem Bs.part_ {w : World} {g o n : Nat} {xs : List UInt8} (h : Bs w (some ⟨g, o, none⟩) n xs) (q m : Nat) (hq : q + m ≤ n) : Bs w (some ⟨g, o + q, none⟩) m ((xs.drop q).take m) := by
 have hl := h.len
 refine ⟨by simp; omega, fun j v hj => ⟨_, rfl, ?_⟩⟩
 rw [List.getElem?_take] at hj
 split at hj
 ·
  rw [List.getElem?_drop] at hj
  obtain ⟨a, e, hc⟩ := h.cells _ v hj
  cases e
  rw [add_lit] at hc ⊢
  rwa [Nat.add_assoc]
 ·
  cases hj
end
section
open Go.RowKit Go.Lib
set_option maxRecDepth 100000 in
theorem paread_loop (w : World) (g o n c : Nat) (ys : List UInt8) (h : Bs w (some ⟨g, o, none⟩) n ys) (hn : n ≤ 140737488351232) (hc : n ≤ c) (hc2 : c ≤ 9223372036854775807) (many : Nat) (hm : many = numB (ys.take 2)) (hl : ys.length = 2 + 9 * many) (L : List (Int × Int × Int)) (E : Int) (hck : (chkS (spansR ys many) = 0 ∧ L = spansR ys many ∧ E = 0) ∨ (chkS (spansR ys many) = 2 ∧ L = [] ∧ E = 2)) :
  Calls Tryz.prog 94 #[.slice (some ⟨g, o, none⟩) n c] w fun e w' => ∃ A' c', e = .returned (.tuple #[.slice A' L.length c', .agg #[.int .i64 E, .int .i64 0]]) ∧ OwnK spanTy w' A' c' L ∧ (∀ a, A' = some a → w.heap.size ≤ a.block) ∧ Chg [] w w' := by
 have HCK := h_ hck
 clear hck
 have hl0 := h.len
 subst hl0
 obtain ⟨w1, hw1, c1, b1⟩ := news1 w (.cells #[.int .i64 0, .int .i64 0] 85)
 have W1 := h_ hw1
 have HX := h_ (h.chg c1 (by simp))
 have C1 := h_ c1
 have F1 := h_ b1
 have h2 : (2 : Int) ≤ (ys.length : Int) := by omega
 have h3 : ¬ ((ys.length : Int) < 2) := by omega
 have h4 : (2 : Int) ≤ (c : Int) := by omega
 have hmk : many < 65536 := by
  have := numB_lt 2 (ys.take 2) (by rw [List.length_take]; omega)
  omega
 have hne : ((ys.length : Int) == 2 + 9 * (many : Int)) = true := by simp; omega
 have RD := h_ (show Bs w1 (some ⟨g, o, none⟩) 2 (ys.take 2) from by have := HX.out.part_ 0 2 (by omega); simpa using this)
 have hg0 : g < w.heap.size := by
  obtain ⟨a, e, hc⟩ := h.cells 0 _ (List.getElem?_eq_getElem (by omega))
  cases e
  have := lt_of_cell hc
  rwa [block_add] at this
 have HG1 := h_ (Nat.lt_of_lt_of_le hg0 c1.size)
 clear hw1 c1 b1 h hg0
 go_enter Tryz.func94, Tryz.ntmps94
 go_wp2_with fail
 rw [← W1.out]
 refine (panumber_any _ _ 2 _ (ys.take 2) RD.out (by rw [List.length_take]; omega)).mono ?_
 rintro e w2 ⟨rfl, hcc⟩
 rw [← hm]
 have HM := h_ hm
 clear hm
 have HG0 := h_ (Nat.lt_of_lt_of_le HG1.out hcc.size)
 clear HG1
 have C2 := h_ (C1.out.trans hcc)
 have F2 := h_ (hcc.at_ F1.out (by simp))
 have HX2 := h_ (HX.out.chg hcc (by simp))
 clear hcc W1 C1 F1 HX RD
 go_upto_region 6 with fail
 generalize hs0 : w.heap.size = s0 at *
 have HS0 := h_ (Nat.le_of_eq hs0)
 clear hs0; go_wp2
 go_loopw [5, 6] (fun v5 v6 wr => ∃ (k q : Nat) (B : Option Addr) (cc : Nat), k ≤ many ∧ v5 = .slice B k cc ∧ v6 = .int .i64 (q : Int) ∧ q = 2 + 9 * k ∧ Hid (OwnK spanTy wr B cc (spansR ys k) ∧ (∀ a, B = some a → w2.heap.size ≤ a.block) ∧ Chg [] w2 wr)) (fun v5 _ _ => many - (match v5 with | .slice _ k _ => k | _ => 0))
 case atStart => exact ⟨0, 2, none, 0, Nat.zero_le _, rfl, rfl, rfl, OwnK.none_ _, by simp, Chg.refl _ _⟩
 case round =>
  obtain ⟨k, q, B, cc, hk, rfl, rfl, hqk, HI⟩ := hrel
  generalize wr = w4 at *
  clear wr
  by_cases hlt : k < many
  ·
   have hq : q < ys.length := by omega
   have ex := List.getElem?_eq_getElem hq
   have HX4 := h_ (HX2.out.chg HI.out.2.2 (by simp))
   obtain ⟨ad, eA, hc⟩ := HX4.out.cells _ _ ex
   cases eA
   rw [add_lit] at hc
   have e1 : (ys.drop q).take 1 = [ys[q]] := by rw [List.drop_eq_getElem_cons hq]; rfl
   generalize ys[q] = x at *
   have E1 := h_ e1
   unfold bv at hc
   have P1 := h_ (HX4.out.part_ (q + 1) 4 (by omega))
   have P2 := h_ (HX4.out.part_ (q + 5) 4 (by omega))
   have i0 : (0 : Int) ≤ (q : Int) := by omega
   have i1 : (q : Int) < (ys.length : Int) := by omega
   have i2 : (q : Int) + 1 ≤ (q : Int) + 5 := by omega
   have hcc : ys.length ≤ c := by omega
   have i3 : (q : Int) + 5 ≤ (c : Int) := by omega
   have i4 : (q : Int) + 9 ≤ (c : Int) := by omega
   have i5 : (q : Int) < 2 + 9 * (many : Int) := by omega
   have j0 : (0 : Int) ≤ (q : Int) + 1 := by omega
   have j1 : (0 : Int) ≤ (q : Int) + 5 := by omega
   have j2 : (q : Int) + 5 ≤ (q : Int) + 9 := by omega
   have j3 : ¬ c = q + 1 := by omega
   have j4 : ¬ q + 1 = c := by omega
   have j5 : ¬ c = q + 5 := by omega
   have j6 : ¬ q + 5 = c := by omega
   have j7 : q + 1 ≤ q + 5 := by omega
   have j8 : q + 5 ≤ c := by omega
   have j9 : q + 5 ≤ q + 9 := by omega
   have ja : q + 9 ≤ c := by omega
   have jb : IntKind.i64.wrap ((q : Int) + 1) = (q : Int) + 1 := IntWalk.i64_in _ (by omega)
   have jc : IntKind.i64.wrap ((q : Int) + 5) = (q : Int) + 5 := IntWalk.i64_in _ (by omega)
   have jd : IntKind.i64.wrap ((q : Int) + 9) = (q : Int) + 9 := IntWalk.i64_in _ (by omega)
   have nt1 : ((q : Int) + 1).toNat = q + 1 := by omega
   have nt5 : ((q : Int) + 5).toNat = q + 5 := by omega
   have nt9 : ((q : Int) + 9).toNat = q + 9 := by omega
   have nl1 : q + 5 - (q + 1) = 4 := by omega
   have nl2 : q + 9 - (q + 5) = 4 := by omega
   have HQ := h_ hqk
   clear ex e1 hq hqk
   have hsp : spanAt ys q = ((x.toNat : Int), (numB ((ys.drop (q + 1)).take 4) : Int), (numB ((ys.drop (q + 5)).take 4) : Int)) := by
    unfold spanAt
    rw [E1.out]
    simp [numB]
   have HSP := h_ hsp
   have LR1 := h_ (spansR_len ys k)
   have BND := h_ (show (k + 1) * 400 ≤ 140737488355327 by omega)
   have hgB : g ∉ (B.map (·.block)).toList := by
    cases B with
    | none => simp
    | some a =>
     have h1 := HI.out.2.1 a rfl
     have h2 := HG0.out
     simp
     omega
   have HB := h_ hgB
   have HWX := h_ (show IntKind.i64.wrap (x.toNat : Int) = (x.toNat : Int) from IntWalk.i64_in _ (by have := x.toNat_lt; omega))
   have hk4 : ∀ w', Chg (B.map (·.block)).toList w4 w' → w'.cell? ⟨g, o + q, none⟩ = some (.int .u8 (x.toNat : Int)) := fun w' h => h.cell hc (by exact HB.out)
   have HK := h_ hk4
   have LT1 := h_ (show ((ys.drop (q + 1)).take 4).length ≤ 4 by rw [List.length_take]; omega)
   have LT2 := h_ (show ((ys.drop (q + 5)).take 4).length ≤ 4 by rw [List.length_take]; omega)
   clear hsp hk4 hc hgB
   generalize (ys.drop (q + 1)).take 4 = l1 at *
   generalize (ys.drop (q + 5)).take 4 = l2 at *
   go_upto_region 10 with fail
   refine wp_region_held_drew (S := fun w' => Chg (B.map (·.block)).toList w4 w') (by kernel_rfl) (Chg.refl _ w4).drew (fun hHeld => ?_)
   have C4 := h_ ((Chg.refl [] w4).drew)
   clear hHeld
   refine step_yes 0 33 ?_ (C4.out.mono (by simp)) rfl rfl (by kernel_rfl) (by kernel_rfl) (by kernel_rfl) (fun _ _ _ h => h) (by rfl) ?_ ?_
   rotate_left
   ·
    (intro w hSw; (try dsimp only at hSw); go_simp; try with_reducible rfl)
   try simp only [Act.put, List.setIfInBounds_toArray, List.set_cons_zero, List.set_cons_succ]
   refine step_yes 1 34 ?_ (C4.out.mono (by simp)) rfl rfl (by kernel_rfl) (by kernel_rfl) (by kernel_rfl) (fun _ _ _ h => h) (by rfl) ?_ ?_
   rotate_left
   ·
    (intro w hSw; (try dsimp only at hSw); go_simp; try with_reducible rfl)
   try simp only [Act.put, List.setIfInBounds_toArray, List.set_cons_zero, List.set_cons_succ]
   refine step_yes 2 35 ?_ (C4.out.mono (by simp)) rfl rfl (by kernel_rfl) (by kernel_rfl) (by kernel_rfl) (fun _ _ _ h => h) (by rfl) ?_ ?_
   rotate_left
   ·
    (intro w hSw; (try dsimp only at hSw); go_simp; try with_reducible rfl)
   try simp only [Act.put, List.setIfInBounds_toArray, List.set_cons_zero, List.set_cons_succ]
   refine step_yes 3 36 ?_ (C4.out.mono (by simp)) rfl rfl (by kernel_rfl) (by kernel_rfl) (by kernel_rfl) (fun _ _ _ h => h) (by rfl) ?_ ?_
   rotate_left
   ·
    (intro w hSw; (try dsimp only at hSw); go_simp; try with_reducible rfl)
   try simp only [Act.put, List.setIfInBounds_toArray, List.set_cons_zero, List.set_cons_succ]
   refine step_yes 4 37 ?_ (C4.out.mono (by simp)) rfl rfl (by kernel_rfl) (by kernel_rfl) (by kernel_rfl) (fun _ _ _ h => h) (by rfl) ?_ ?_
   rotate_left
   ·
    (intro w hSw; (try dsimp only at hSw); have hq0 := HK.out _ hSw; go_simp; try with_reducible rfl)
   try simp only [Act.put, List.setIfInBounds_toArray, List.set_cons_zero, List.set_cons_succ]
   refine step_yes 5 38 ?_ (C4.out.mono (by simp)) rfl rfl (by kernel_rfl) (by kernel_rfl) (by kernel_rfl) (fun _ _ _ h => h) (by rfl) ?_ ?_
   rotate_left
   ·
    (intro w hSw; (try dsimp only at hSw); go_simp; try with_reducible rfl)
   try simp only [Act.put, List.setIfInBounds_toArray, List.set_cons_zero, List.set_cons_succ]
   refine step_yes 6 39 ?_ (C4.out.mono (by simp)) rfl rfl (by kernel_rfl) (by kernel_rfl) (by kernel_rfl) (fun _ _ _ h => h) (by rfl) ?_ ?_
   rotate_left
   ·
    (intro w hSw; (try dsimp only at hSw); go_simp; try with_reducible rfl)
   try simp only [Act.put, List.setIfInBounds_toArray, List.set_cons_zero, List.set_cons_succ]
   refine step_yes 7 40 ?_ (C4.out.mono (by simp)) rfl rfl (by kernel_rfl) (by kernel_rfl) (by kernel_rfl) (fun _ _ _ h => h) (by rfl) ?_ ?_
   rotate_left
   ·
    (intro w hSw; (try dsimp only at hSw); go_simp; try with_reducible rfl)
   try simp only [Act.put, List.setIfInBounds_toArray, List.set_cons_zero, List.set_cons_succ]
   refine step_yes 8 41 ?_ (C4.out.mono (by simp)) rfl rfl (by kernel_rfl) (by kernel_rfl) (by kernel_rfl) (fun _ _ _ h => h) (by rfl) ?_ ?_
   rotate_left
   ·
    (intro w hSw; (try dsimp only at hSw); go_simp; try with_reducible rfl)
   try simp only [Act.put, List.setIfInBounds_toArray, List.set_cons_zero, List.set_cons_succ]
   refine step_yes 9 42 ?_ (C4.out.mono (by simp)) rfl rfl (by kernel_rfl) (by kernel_rfl) (by kernel_rfl) (fun _ _ _ h => h) (by rfl) ?_ ?_
   rotate_left
   ·
    (intro w hSw; (try dsimp only at hSw); go_simp; try with_reducible rfl)
   try simp only [Act.put, List.setIfInBounds_toArray, List.set_cons_zero, List.set_cons_succ]
   refine step_yes 10 43 ?_ (C4.out.mono (by simp)) rfl rfl (by kernel_rfl) (by kernel_rfl) (by kernel_rfl) (fun _ _ _ h => h) (by rfl) ?_ ?_
   rotate_left
   ·
    (intro w hSw; (try dsimp only at hSw); go_simp; try with_reducible rfl)
   try simp only [Act.put, List.setIfInBounds_toArray, List.set_cons_zero, List.set_cons_succ]
   refine step_yes 11 44 ?_ (C4.out.mono (by simp)) rfl rfl (by kernel_rfl) (by kernel_rfl) (by kernel_rfl) (fun _ _ _ h => h) (by rfl) ?_ ?_
   rotate_left
   ·
    (intro w hSw; (try dsimp only at hSw); go_simp; try with_reducible rfl)
   try simp only [Act.put, List.setIfInBounds_toArray, List.set_cons_zero, List.set_cons_succ]
   refine step_yes 13 46 ?_ (C4.out.mono (by simp)) rfl rfl (by kernel_rfl) (by kernel_rfl) (by kernel_rfl) (fun _ _ _ h => h) (by rfl) ?_ ?_
   rotate_left
   ·
    (intro w hSw; (try dsimp only at hSw); go_simp; try with_reducible rfl)
   try simp only [Act.put, List.setIfInBounds_toArray, List.set_cons_zero, List.set_cons_succ]
   refine step_yes 14 47 ?_ (C4.out.mono (by simp)) rfl rfl (by kernel_rfl) (by kernel_rfl) (by kernel_rfl) (fun _ _ _ h => h) (by rfl) ?_ ?_
   rotate_left
   ·
    (intro w hSw; (try dsimp only at hSw); go_simp; try with_reducible rfl)
   try simp only [Act.put, List.setIfInBounds_toArray, List.set_cons_zero, List.set_cons_succ]
   refine step_yes 15 48 ?_ (C4.out.mono (by simp)) rfl rfl (by kernel_rfl) (by kernel_rfl) (by kernel_rfl) (fun _ _ _ h => h) (by rfl) ?_ ?_
   rotate_left
   ·
    (intro w hSw; (try dsimp only at hSw); go_simp; try with_reducible rfl)
   try simp only [Act.put, List.setIfInBounds_toArray, List.set_cons_zero, List.set_cons_succ]
   refine step_yes 16 49 ?_ (C4.out.mono (by simp)) rfl rfl (by kernel_rfl) (by kernel_rfl) (by kernel_rfl) (fun _ _ _ h => h) (by rfl) ?_ ?_
   rotate_left
   ·
    (intro w hSw; (try dsimp only at hSw); go_simp; try with_reducible rfl)
   try simp only [Act.put, List.setIfInBounds_toArray, List.set_cons_zero, List.set_cons_succ]
   refine step_yes 17 50 ?_ (C4.out.mono (by simp)) rfl rfl (by kernel_rfl) (by kernel_rfl) (by kernel_rfl) (fun _ _ _ h => h) (by rfl) ?_ ?_
   rotate_left
   ·
    (intro w hSw; (try dsimp only at hSw); go_simp; try with_reducible rfl)
   try simp only [Act.put, List.setIfInBounds_toArray, List.set_cons_zero, List.set_cons_succ]
   refine step_yes 18 51 ?_ (C4.out.mono (by simp)) rfl rfl (by kernel_rfl) (by kernel_rfl) (by kernel_rfl) (fun _ _ _ h => h) (by rfl) ?_ ?_
   rotate_left
   ·
    (intro w hSw; (try dsimp only at hSw); go_simp; try with_reducible rfl)
   try simp only [Act.put, List.setIfInBounds_toArray, List.set_cons_zero, List.set_cons_succ]
   refine on1 12 rfl (fun K hK => ?_)
   go_simp
   refine (panumber_any _ _ 4 _ l1 (P1.out.chg C4.out (by simp)) LT1.out).mono ?_
   rintro e w9 ⟨rfl, hc⟩
   have C9 := h_ (C4.out.trans hc)
   clear hc C4
   refine hK.out _ _ (C9.out.mono (by simp)) (fun hHeld => ?_)
   clear hK K; try simp only [Act.put, List.setIfInBounds_toArray, List.set_cons_zero, List.set_cons_succ]
   clear hHeld
   refine on1 19 rfl (fun K hK => ?_)
   go_simp
   refine (panumber_any _ _ 4 _ l2 (P2.out.chg C9.out (by simp)) LT2.out).mono ?_
   rintro e v9 ⟨rfl, hc⟩
   have C8 := h_ (C9.out.trans hc)
   clear hc C9
   refine hK.out _ _ (C8.out.mono (by simp)) (fun hHeld => ?_)
   clear hK K; try simp only [Act.put, List.setIfInBounds_toArray, List.set_cons_zero, List.set_cons_succ]
   clear hHeld
   refine step_yes 20 53 ?_ (C8.out.mono (by simp)) rfl rfl (by kernel_rfl) (by kernel_rfl) (by kernel_rfl) (fun _ _ _ h => h) (by rfl) ?_ ?_
   rotate_left
   ·
    (intro w hSw; (try dsimp only at hSw); go_simp; try with_reducible rfl)
   try simp only [Act.put, List.setIfInBounds_toArray, List.set_cons_zero, List.set_cons_succ]
   refine on1 21 rfl (fun K hK => ?_)
   go_simp
   obtain ⟨w5, hw5, c5, b5⟩ := news1 v9 (.cells #[.int .i64 (x.toNat : Int), .int .i64 (numB l1 : Int), .int .i64 (numB l2 : Int)] 81)
   simp only [HWX.out]
   rw [← hw5]
   have C5 := h_ (C8.out.trans c5)
   refine hK.out _ _ (C5.out.mono (by simp)) (fun hHeld => ?_)
   clear hK K hHeld; try simp only [Act.put, List.setIfInBounds_toArray, List.set_cons_zero, List.set_cons_succ]
   have R5 := h_ (OwnK.of (R := spanTy) (c := 1) (full := [((x.toNat : Int), (numB l1 : Int), (numB l2 : Int))]) (xs := [((x.toNat : Int), (numB l1 : Int), (numB l2 : Int))]) b5 (Nat.le_refl _) (by decide) rfl rfl).reads
   have O5 := h_ (HI.out.1.chg C5.out (by simp))
   clear hw5 c5 b5 C8
   refine on1 22 rfl (fun K hK => ?_)
   refine step_appK (R := spanTy) rfl (.tmp 33) (.tmp 54) rfl rfl O5.out LR1.out rfl R5.out BND.out ?_
   intro A2 c2 w7 u2 d2 e2
   have C7 := h_ ((C5.out.mono (S' := (B.map (·.block)).toList) (by simp)).grown d2 (fun k hk => .inl (by simp [hk])))
   have AO := app_own (w := w2) HI.out.2.1 (HI.out.2.2.trans C5.out) d2 e2
   have U2 := h_ u2
   have AO2 := h_ AO
   clear u2 d2 e2 AO
   refine hK.out _ _ C7.out (fun hHeld => ?_)
   clear hK K hHeld; try simp only [Act.put, List.setIfInBounds_toArray, List.set_cons_zero, List.set_cons_succ]
   refine step_yes 23 5 ?_ C7.out rfl rfl (by kernel_rfl) (by kernel_rfl) (by kernel_rfl) (fun _ _ _ h => h) (by rfl) ?_ ?_
   rotate_left
   ·
    (intro w hSw; (try dsimp only at hSw); go_simp; try with_reducible rfl)
   try simp only [Act.put, List.setIfInBounds_toArray, List.set_cons_zero, List.set_cons_succ]
   refine wpAnyH_done (by kernel_rfl) ?_ _; go_wp2; go_round
   case rel => exact ⟨k + 1, q + 9, A2, c2, by omega, by congr 1, by go_num, by have := HQ.out; omega, by rw [spansR_succ, ← HQ.out, HSP.out]; exact U2.out, AO2.out.1, AO2.out.2⟩
   case measure => simp; omega
  ·
   obtain rfl : k = many := by omega
   have hw2l := HI.out.1.reads
   go_wp2_with fail
   refine (pacheck_any _ B _ cc (spansR ys k) (by have := hw2l; rwa [spansR_len] at this) (by omega)).mono ?_
   rintro e w5 ⟨rfl, hc5⟩
   rcases HCK.out with ⟨hk0, hL, hE⟩ | ⟨hk0, hL, hE⟩
   ·
    rw [hk0]
    clear HCK hw2l hk0
    subst hL hE
    have hb := hc5.at_ (HI.out.2.2.at_ F2.out (by simp)) (by simp)
    have z0 := cell_of hb 0
    have z1 := cell_of hb 1
    have f0 := free_of hb 0
    have f1 := free_of hb 1
    simp only [gA, gY, gZ] at z0 z1
    have e0 := heap_setCell_same _ s0 0 _ _ (.int .i64 0) hb
    have e1 := heap_setCell_same _ s0 1 _ _ (.int .i64 0) e0
    have HE : Hid (((w5.setCell ⟨s0, 0, none⟩ (.int .i64 0)).setCell ⟨s0, 1, none⟩ (.int .i64 0)).heap[s0]? = some (.cells #[.int .i64 0, .int .i64 0] 85 (0, 0))) := h_ (by simpa using e1)
    have CW := h_ (Chg.put (Chg.put (C2.out.trans (HI.out.2.2.trans hc5)) HS0.out 0 (.int .i64 0)) HS0.out 1 (.int .i64 0))
    have CS := ((Chg.refl [s0] w5).setCell (p := ⟨s0, 0, none⟩) (.inl (by simp)) (.int .i64 0)).setCell (p := ⟨s0, 1, none⟩) (.inl (by simp)) (.int .i64 0)
    have OF := h_ ((HI.out.1.chg hc5 (by simp)).chg CS (fun a ha => by
     have h1 := HI.out.2.1 a ha
     have h2 := lt_of_heap F2.out
     simp
     omega))
    have NF := h_ (fun a (ha : B = some a) => Nat.le_trans C2.out.size (HI.out.2.1 a ha))
    have LF := h_ (spansR_len ys k)
    clear hb e0 e1 CS hc5; go_wp2
    generalize (w5.setCell ⟨s0, 0, none⟩ (.int .i64 0)).setCell ⟨s0, 1, none⟩ (.int .i64 0) = W at *
    clear z0 z1 f0 f1
    obtain ⟨z0, z1⟩ := ce2 HE.out
    refine bodyPost_ret (v := .tuple #[.slice B k cc, .agg #[.int .i64 0, .int .i64 0]]) (by simp [results, Tryz.results94, go_sem, z0, z1]) rfl ?_
    exact ⟨B, cc, by rw [LF.out], OF.out, NF.out, CW.out⟩
   ·
    rw [hk0]
    clear HCK hw2l hk0
    subst hL hE
    have hb := hc5.at_ (HI.out.2.2.at_ F2.out (by simp)) (by simp)
    have z0 := cell_of hb 0
    have z1 := cell_of hb 1
    have f0 := free_of hb 0
    have f1 := free_of hb 1
    simp only [gA, gY, gZ] at z0 z1
    have e0 := heap_setCell_same _ s0 0 _ _ (.int .i64 2) hb
    have e1 := heap_setCell_same _ s0 1 _ _ (.int .i64 0) e0
    have HE : Hid (((w5.setCell ⟨s0, 0, none⟩ (.int .i64 2)).setCell ⟨s0, 1, none⟩ (.int .i64 0)).heap[s0]? = some (.cells #[.int .i64 2, .int .i64 0] 85 (0, 0))) := h_ (by simpa using e1)
    have CW := h_ (Chg.put (Chg.put (C2.out.trans (HI.out.2.2.trans hc5)) HS0.out 0 (.int .i64 2)) HS0.out 1 (.int .i64 0))
    have CS := ((Chg.refl [s0] w5).setCell (p := ⟨s0, 0, none⟩) (.inl (by simp)) (.int .i64 2)).setCell (p := ⟨s0, 1, none⟩) (.inl (by simp)) (.int .i64 0)
    clear hb e0 e1 CS hc5; go_wp2
    generalize (w5.setCell ⟨s0, 0, none⟩ (.int .i64 2)).setCell ⟨s0, 1, none⟩ (.int .i64 0) = W at *
    clear z0 z1 f0 f1
    obtain ⟨z0, z1⟩ := ce2 HE.out
    refine bodyPost_ret (v := .tuple #[.slice none 0 0, .agg #[.int .i64 2, .int .i64 0]]) (by simp [results, Tryz.results94, go_sem, z0, z1]) rfl ?_
    exact ⟨none, 0, rfl, OwnK.none_ _, by simp, CW.out⟩
end
section
open Go.RowKit Go.Lib


def readS (ys : List UInt8) : List (Int × Int × Int) × (Int × Int) :=
 if ys.length < 2 then ([], (4, (ys.length : Int)))
 else if ys.length = 2 + 9 * numB (ys.take 2) then (if chkS (spansR ys (numB (ys.take 2))) = 0 then (spansR ys (numB (ys.take 2)), (0, 0)) else ([], (2, 0)))
 else ([], (4, if ys.length < 2 + 9 * numB (ys.take 2) then (ys.length : Int) else ((2 + 9 * numB (ys.take 2) : Nat) : Int)))
theorem readS_short {ys : List UInt8} (h : ys.length < 2) : readS ys = ([], (4, (ys.length : Int))) := if_pos h
theorem readS_odd {ys : List UInt8} (h : ¬ ys.length < 2) (h2 : ys.length ≠ 2 + 9 * numB (ys.take 2)) : readS ys = ([], (4, if ys.length < 2 + 9 * numB (ys.take 2) then (ys.length : Int) else ((2 + 9 * numB (ys.take 2) : Nat) : Int))) := by
 unfold readS
 rw [if_neg h, if_neg h2]
theorem readS_fine {ys : List UInt8} (h : ¬ ys.length < 2) (h2 : ys.length = 2 + 9 * numB (ys.take 2)) :
  (chkS (spansR ys (numB (ys.take 2))) = 0 ∧ readS ys = (spansR ys (numB (ys.take 2)), (0, 0))) ∨ (chkS (spansR ys (numB (ys.take 2))) = 2 ∧ readS ys = ([], (2, 0))) := by
 unfold readS
 rw [if_neg h, if_pos h2]
 by_cases hk : chkS (spansR ys (numB (ys.take 2))) = 0
 ·
  rw [if_pos hk]; exact .inl ⟨hk, rfl⟩
 ·
  rw [if_neg hk]; exact .inr ⟨chkS_odd hk, rfl⟩
theorem Bs.base {w : World} {A : Option Addr} {n : Nat} {ys : List UInt8} (h : Bs w A n ys) (hn : 0 < n) : ∃ g o, A = some ⟨g, o, none⟩ := by
 have hl := h.len
 obtain ⟨ad, rfl, hc⟩ := h.cells 0 _ (List.getElem?_eq_getElem (by omega))
 have hsp := World.cell?_spot hc
 obtain ⟨g, o, sp⟩ := ad
 have hsp : sp = none := by simpa [Addr.add] using hsp
 subst hsp
 exact ⟨g, o, rfl⟩

theorem paread_short (w : World) (A : Option Addr) (n c : Nat) (ys : List UInt8) (h : Bs w A n ys) (h2 : ys.length < 2) :
  Calls Tryz.prog 94 #[.slice A n c] w fun e w' => ∃ A' c', e = .returned (.tuple #[.slice A' (readS ys).1.length c', .agg #[.int .i64 (readS ys).2.1, .int .i64 (readS ys).2.2]]) ∧ OwnK spanTy w' A' c' (readS ys).1 ∧ (∀ a, A' = some a → w.heap.size ≤ a.block) ∧ Chg [] w w' := by
 rw [readS_short h2]
 have hl := h.len
 subst hl
 have h3 : (ys.length : Int) < 2 := by omega
 clear h h2
 go_enter Tryz.func94, Tryz.ntmps94
 go_wp2
 refine bodyPost_ret (v := .tuple #[.slice none 0 0, .agg #[.int .i64 4, .int .i64 ys.length]]) (by simp [results, Tryz.results94, go_sem]) rfl ?_
 exact ⟨none, 0, rfl, OwnK.none_ _, by simp, (Chg.refl _ _).alloc _⟩

set_option maxRecDepth 100000 in
theorem paread_odd (w : World) (g o n c : Nat) (ys : List UInt8) (h : Bs w (some ⟨g, o, none⟩) n ys) (hn : n ≤ 140737488351232) (hc : n ≤ c) (hc2 : c ≤ 9223372036854775807) (hs : ¬ ys.length < 2) (many : Nat) (hm : many = numB (ys.take 2)) (hl : ys.length ≠ 2 + 9 * many) (V : Int) (hV : (ys.length < 2 + 9 * many ∧ V = ys.length) ∨ (2 + 9 * many < ys.length ∧ V = ((2 + 9 * many : Nat) : Int))) :
  Calls Tryz.prog 94 #[.slice (some ⟨g, o, none⟩) n c] w fun e w' => ∃ A' c', e = .returned (.tuple #[.slice A' 0 c', .agg #[.int .i64 4, .int .i64 V]]) ∧ OwnK spanTy w' A' c' [] ∧ (∀ a, A' = some a → w.heap.size ≤ a.block) ∧ Chg [] w w' := by
 have hl0 := h.len
 subst hl0
 obtain ⟨w1, hw1, c1, b1⟩ := news1 w (.cells #[.int .i64 0, .int .i64 0] 85)
 have W1 := h_ hw1
 have HX := h_ (h.chg c1 (by simp))
 have C1 := h_ c1
 have F1 := h_ b1
 have h2 : (2 : Int) ≤ (ys.length : Int) := by omega
 have h3 : ¬ ((ys.length : Int) < 2) := by omega
 have h4 : (2 : Int) ≤ (c : Int) := by omega
 have hmk : many < 65536 := by
  have := numB_lt 2 (ys.take 2) (by rw [List.length_take]; omega)
  omega
 have hne : ((ys.length : Int) == 2 + 9 * (many : Int)) = false := by simp; omega
 have RD := h_ (show Bs w1 (some ⟨g, o, none⟩) 2 (ys.take 2) from by have := HX.out.part_ 0 2 (by omega); simpa using this)
 clear hw1 c1 b1 h hs
 rcases hV with ⟨hv, rfl⟩ | ⟨hv, rfl⟩
 ·
  have hlt : (ys.length : Int) < 2 + 9 * (many : Int) := by omega
  clear hv hl
  go_enter Tryz.func94, Tryz.ntmps94
  go_wp2_with fail
  rw [← W1.out]
  refine (panumber_any _ _ 2 _ (ys.take 2) RD.out (by rw [List.length_take]; omega)).mono ?_
  rintro e w2 ⟨rfl, hcc⟩
  rw [← hm]
  clear hm
  have C2 := h_ (C1.out.trans hcc)
  have F2 := h_ (hcc.at_ F1.out (by simp))
  clear hcc W1 C1 F1 HX RD
  generalize hs0 : w.heap.size = s0 at *
  have HS0 := h_ (Nat.le_of_eq hs0)
  clear hs0
  have hb := F2.out
  have z0 := cell_of hb 0
  have z1 := cell_of hb 1
  have f0 := free_of hb 0
  have f1 := free_of hb 1
  simp only [gA, gY, gZ] at z0 z1
  have e0 := heap_setCell_same _ s0 0 _ _ (.int .i64 4) hb
  have e1 := heap_setCell_same _ s0 1 _ _ (.int .i64 ys.length) e0
  have HE : Hid (((w2.setCell ⟨s0, 0, none⟩ (.int .i64 4)).setCell ⟨s0, 1, none⟩ (.int .i64 ys.length)).heap[s0]? = some (.cells #[.int .i64 4, .int .i64 ys.length] 85 (0, 0))) := h_ (by simpa using e1)
  have CW := h_ (Chg.put (Chg.put C2.out HS0.out 0 (.int .i64 4)) HS0.out 1 (.int .i64 ys.length))
  clear hb e0 e1; go_wp2
  try simp only [show min (ys.length : Int) (2 + 9 * (many : Int)) = (ys.length : Int) by omega]
  generalize (w2.setCell ⟨s0, 0, none⟩ (.int .i64 4)).setCell ⟨s0, 1, none⟩ (.int .i64 ys.length) = W at *
  clear z0 z1 f0 f1
  obtain ⟨z0, z1⟩ := ce2 HE.out
  refine bodyPost_ret (v := .tuple #[.slice none 0 0, .agg #[.int .i64 4, .int .i64 ys.length]]) (by simp [results, Tryz.results94, go_sem, z0, z1]) rfl ?_
  exact ⟨none, 0, rfl, OwnK.none_ _, by simp, CW.out⟩
 ·
  have hlt : ¬ (ys.length : Int) < 2 + 9 * (many : Int) := by omega
  have hlt2 : 2 + 9 * (many : Int) < (ys.length : Int) := by omega
  have hlt3 : 2 + 9 * (many : Int) ≤ (ys.length : Int) := by omega
  clear hv hl
  go_enter Tryz.func94, Tryz.ntmps94
  go_wp2_with fail
  rw [← W1.out]
  refine (panumber_any _ _ 2 _ (ys.take 2) RD.out (by rw [List.length_take]; omega)).mono ?_
  rintro e w2 ⟨rfl, hcc⟩
  rw [← hm]
  clear hm
  have C2 := h_ (C1.out.trans hcc)
  have F2 := h_ (hcc.at_ F1.out (by simp))
  clear hcc W1 C1 F1 HX RD
  generalize hs0 : w.heap.size = s0 at *
  have HS0 := h_ (Nat.le_of_eq hs0)
  clear hs0
  have hb := F2.out
  have z0 := cell_of hb 0
  have z1 := cell_of hb 1
  have f0 := free_of hb 0
  have f1 := free_of hb 1
  simp only [gA, gY, gZ] at z0 z1
  have e0 := heap_setCell_same _ s0 0 _ _ (.int .i64 4) hb
  have e1 := heap_setCell_same _ s0 1 _ _ (.int .i64 (2 + 9 * (many : Int))) e0
  have HE : Hid (((w2.setCell ⟨s0, 0, none⟩ (.int .i64 4)).setCell ⟨s0, 1, none⟩ (.int .i64 (2 + 9 * (many : Int)))).heap[s0]? = some (.cells #[.int .i64 4, .int .i64 (2 + 9 * (many : Int))] 85 (0, 0))) := h_ (by simpa using e1)
  have CW := h_ (Chg.put (Chg.put C2.out HS0.out 0 (.int .i64 4)) HS0.out 1 (.int .i64 (2 + 9 * (many : Int))))
  clear hb e0 e1; go_wp2
  try simp only [show min (ys.length : Int) (2 + 9 * (many : Int)) = 2 + 9 * (many : Int) by omega]
  generalize (w2.setCell ⟨s0, 0, none⟩ (.int .i64 4)).setCell ⟨s0, 1, none⟩ (.int .i64 (2 + 9 * (many : Int))) = W at *
  clear z0 z1 f0 f1
  obtain ⟨z0, z1⟩ := ce2 HE.out
  refine bodyPost_ret (v := .tuple #[.slice none 0 0, .agg #[.int .i64 4, .int .i64 (2 + 9 * (many : Int))]]) (by simp [results, Tryz.results94, go_sem, z0, z1]) rfl ?_
  exact ⟨none, 0, rfl, OwnK.none_ _, by simp, CW.out⟩

theorem paread_any (w : World) (A : Option Addr) (n c : Nat) (ys : List UInt8) (h : Bs w A n ys) (hn : n ≤ 140737488351232) (hc : n ≤ c) (hc2 : c ≤ 9223372036854775807) :
  Calls Tryz.prog 94 #[.slice A n c] w fun e w' => ∃ A' c', e = .returned (.tuple #[.slice A' (readS ys).1.length c', .agg #[.int .i64 (readS ys).2.1, .int .i64 (readS ys).2.2]]) ∧ OwnK spanTy w' A' c' (readS ys).1 ∧ (∀ a, A' = some a → w.heap.size ≤ a.block) ∧ Chg [] w w' := by
 have hl := h.len
 by_cases h2 : ys.length < 2
 ·
  exact paread_short w A n c ys h h2
 obtain ⟨g, o, rfl⟩ := h.base (by omega)
 by_cases h3 : ys.length = 2 + 9 * numB (ys.take 2)
 ·
  rcases readS_fine h2 h3 with ⟨hk, e⟩ | ⟨hk, e⟩ <;> rw [e]
  ·
   exact paread_loop w g o n c ys h hn hc hc2 _ rfl h3 _ _ (.inl ⟨hk, rfl, rfl⟩)
  ·
   exact paread_loop w g o n c ys h hn hc hc2 _ rfl h3 _ _ (.inr ⟨hk, rfl, rfl⟩)
 ·
  rw [readS_odd h2 h3]
  refine paread_odd w g o n c ys h hn hc hc2 h2 _ rfl h3 _ ?_
  by_cases h4 : ys.length < 2 + 9 * numB (ys.take 2)
  ·
   exact .inl ⟨h4, if_pos h4⟩
  ·
   exact .inr ⟨by omega, if_neg h4⟩
end
end Go.Proofs.YtehmchdhlhchjaaGreatDoor
