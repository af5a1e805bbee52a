/- Rows of events; the kit's SameEvents. The kit's CopyEffect. The kit's CopyEvent. A run of the program on marks in the place of blocks: plain functions that the kernel can run. No program is named here. What a mark stands for: values, rows and worlds against their marks. No program is named here. -/
import Derived.Test.YtgbidlhgmeglmaaGreatDoorZepf
import Derived.Deep.Cut
import Derived.Test.YtgbidlhgmeglmaaGreatDoorZepb
import Derived.Test.YtgbidlhgmeglmaaGreatDoorRows
import Derived.RangeFuncLeaves
import Derived.OrdersIn
import Derived.LoopNIn
namespace Go.Proofs.YtgbidlhgmeglmaaGreatDoor
section
open Go.RowKit Go.Lib
set_option linter.unusedSimpArgs false
set_option linter.unusedVariables false


def EvsR (w : World) (xs : List EvT) (es : List EvP) : Prop := xs.length = es.length ∧ ∀ (i : Nat) (x : EvT) (e : EvP), xs[i]? = some x → es[i]? = some e → EvR w x e
theorem EvsR.chg {w w' : World} {xs : List EvT} {es : List EvP} (h : EvsR w xs es) (hc : Chg [] w w') : EvsR w' xs es := ⟨h.1, fun i x e hx he => (h.2 i x e hx he).chg hc⟩
theorem EvsR.at_ {w : World} {xs : List EvT} {es : List EvP} (h : EvsR w xs es) {i : Nat} (hi : i < xs.length) : ∃ x e, xs[i]? = some x ∧ es[i]? = some e ∧ EvR w x e :=
 ⟨_, _, List.getElem?_eq_getElem hi, List.getElem?_eq_getElem (by rw [← h.1]; exact hi), h.2 i _ _ (List.getElem?_eq_getElem hi) (List.getElem?_eq_getElem (by rw [← h.1]; exact hi))⟩
theorem EvsR.nil (w : World) : EvsR w [] [] := ⟨rfl, fun i x e hx _ => by simp at hx⟩
def sameL : List EvP → List EvP → Bool
 | [], [] => true
 | a :: l, b :: m => sameP a b && sameL l m
 | _, _ => false
theorem sameL_len : ∀ {l m : List EvP}, sameL l m = true → l.length = m.length
 | [], [], _ => rfl
 | a :: l, b :: m, h => by
  simp only [sameL, Bool.and_eq_true] at h
  rw [List.length_cons, List.length_cons, sameL_len h.2]
 | [], _ :: _, h => by simp [sameL] at h
 | _ :: _, [], h => by simp [sameL] at h
theorem sameL_at : ∀ {l m : List EvP}, l.length = m.length → (∀ (i : Nat) (a b : EvP), l[i]? = some a → m[i]? = some b → sameP a b = true) → sameL l m = true
 | [], [], _, _ => rfl
 | a :: l, b :: m, hl, h => by
  simp only [sameL, Bool.and_eq_true]
  exact ⟨h 0 a b rfl rfl, sameL_at (by simpa using hl) (fun i x y hx hy => h (i + 1) x y (by simpa using hx) (by simpa using hy))⟩
 | [], _ :: _, hl, _ => by simp at hl
 | _ :: _, [], hl, _ => by simp at hl
theorem sameL_no : ∀ {l m : List EvP} (i : Nat) (a b : EvP), l[i]? = some a → m[i]? = some b → sameP a b = false → sameL l m = false
 | [], m, i, a, b, h, _, _ => by simp at h
 | _ :: _, [], i, a, b, _, h, _ => by simp at h
 | x :: l, y :: m, 0, a, b, hx, hy, h => by
  simp at hx hy
  subst hx hy
  simp [sameL, h]
 | x :: l, y :: m, i + 1, a, b, hx, hy, h => by
  simp only [sameL, Bool.and_eq_false_iff]
  exact .inr (sameL_no i a b (by simpa using hx) (by simpa using hy) h)
theorem sameP_refl (a : EvP) : sameP a a = true := by unfold sameP; simp
theorem sameL_refl (l : List EvP) : sameL l l = true := sameL_at rfl (fun i a b h k => by rw [h] at k; cases k; exact sameP_refl a)

set_option maxRecDepth 100000 in
set_option maxHeartbeats 8000000 in
theorem sameevs_any (w : World) (A B : Option Addr) (c d : Nat) (xs ys : List EvT) (es fs : List EvP) (h : RdK evTy w A xs.length xs) (h' : RdK evTy w B ys.length ys) (hx : EvsR w xs es) (hy : EvsR w ys fs) (hn : xs.length ≤ 100000 ∧ ys.length ≤ 100000) (hq : (∀ e ∈ es, e.q.length ≤ 140737488351232) ∧ (∀ e ∈ fs, e.q.length ≤ 140737488351232)) :
  Calls Tryz.prog 36 #[.slice A xs.length c, .slice B ys.length d] w fun r w' => r = .returned (.bool (sameL es fs)) ∧ Chg [] w w' := by
 have HA := Lib.hid h
 have HB := Lib.hid h'
 have HX := Lib.hid hx
 have HY := Lib.hid hy
 have HN := Lib.hid hn
 have HQ := Lib.hid hq
 clear h h' hx hy hn hq
 generalize hv : sameL es fs = v
 have HV := Lib.hid hv
 clear hv
 by_cases hne : xs.length = ys.length
 rotate_left
 ·
  have hb : ((xs.length : Int) == (ys.length : Int)) = false := by simp; omega
  have hb2 : ((xs.length : Int) != (ys.length : Int)) = true := by simp; omega
  obtain rfl : v = false := by
   rw [← HV.out]
   cases q : sameL es fs with
   | false => rfl
   | true => exact absurd (sameL_len q) (by rw [← HX.out.1, ← HY.out.1]; exact hne)
  clear hne
  go_enter Tryz.func36, Tryz.ntmps36
  go_wp2
  go_ret
  exact ⟨rfl, Chg.refl _ _⟩
 have hb : ((xs.length : Int) == (ys.length : Int)) = true := by simp; omega
 have hb2 : ((xs.length : Int) != (ys.length : Int)) = false := by simp; omega
 have NE_ := Lib.hid hne
 clear hne
 go_enter Tryz.func36, Tryz.ntmps36
 go_wp2
 clear hb hb2
 go_loopw [5] (fun i wr => ∃ k : Nat, k ≤ xs.length ∧ i = .int .i64 k ∧ Hid (∀ (j : Nat) (a b : EvP), j < k → es[j]? = some a → fs[j]? = some b → sameP a b = true) ∧ Hid (Chg [] w wr)) (fun i _ => xs.length - (RowKit.intOf i).toNat)
 case atStart => exact ⟨0, Nat.zero_le _, rfl, Lib.hid (fun j a b hj => absurd hj (by omega)), Chg.refl _ _⟩
 case round =>
  obtain ⟨k, hk, rfl, TK, RC⟩ := hrel
  have i0 : (0 : Int) ≤ (k : Int) := by omega
  by_cases hlt : k < xs.length
  ·
   have hlt2 : k < ys.length := by have := NE_.out; omega
   obtain ⟨g, o, eA, _⟩ := HA.out.line (by omega)
   obtain ⟨g2, o2, eB, _⟩ := HB.out.line (by omega)
   subst eA eB
   obtain ⟨x, e, ex, ee, rx⟩ := HX.out.at_ hlt
   obtain ⟨y, f, ey, ef, ry⟩ := HY.out.at_ hlt2
   have DX : Hid (∀ w', Chg [] w w' → (fun w' => (w'.cell? ⟨g, o + k * 7, none⟩ = some (.int .i64 x.n) ∧ w'.cell? ⟨g, o + k * 7 + 1, none⟩ = some (.int .i64 x.s) ∧ w'.cell? ⟨g, o + k * 7 + 2, none⟩ = some (.string x.p) ∧ w'.cell? ⟨g, o + k * 7 + 3, none⟩ = some (.int .i64 x.k) ∧ w'.cell? ⟨g, o + k * 7 + 4, none⟩ = some (.int .i64 x.m) ∧ w'.cell? ⟨g, o + k * 7 + 5, none⟩ = some (.slice x.A x.l x.c) ∧ w'.cell? ⟨g, o + k * 7 + 6, none⟩ = some (.slice x.B x.bl x.bc)) ∧ (w'.cell? ⟨g2, o2 + k * 7, none⟩ = some (.int .i64 y.n) ∧ w'.cell? ⟨g2, o2 + k * 7 + 1, none⟩ = some (.int .i64 y.s) ∧ w'.cell? ⟨g2, o2 + k * 7 + 2, none⟩ = some (.string y.p) ∧ w'.cell? ⟨g2, o2 + k * 7 + 3, none⟩ = some (.int .i64 y.k) ∧ w'.cell? ⟨g2, o2 + k * 7 + 4, none⟩ = some (.int .i64 y.m) ∧ w'.cell? ⟨g2, o2 + k * 7 + 5, none⟩ = some (.slice y.A y.l y.c) ∧ w'.cell? ⟨g2, o2 + k * 7 + 6, none⟩ = some (.slice y.B y.bl y.bc))) w') := Lib.hid (fun w' hc => ⟨evCells (HA.out.chg hc (by simp)) ex, evCells (HB.out.chg hc (by simp)) ey⟩)
   have i1 : (k : Int) < (xs.length : Int) := by omega
   have i2 : (k : Int) < (ys.length : Int) := by omega
   have i3 : IntKind.i64.wrap ((k : Int) + 1) = (k : Int) + 1 := IntWalk.i64_in _ (by have := HN.out.1; omega)
   have RX := Lib.hid rx
   have RY := Lib.hid ry
   have EE := Lib.hid (And.intro ee ef)
   clear ex ey ee ef rx ry
   obtain ⟨⟨z0, z1, z2, z3, z4, z5, z6⟩, ⟨y0, y1, y2, y3, y4, y5, y6⟩⟩ := DX.out _ RC.out
   go_upto_region 6 with fail
   clear z0 z1 z2 z3 z4 z5 z6 y0 y1 y2 y3 y4 y5 y6
   refine wp_region_held_drew (S := fun w' => (w'.cell? ⟨g, o + k * 7, none⟩ = some (.int .i64 x.n) ∧ w'.cell? ⟨g, o + k * 7 + 1, none⟩ = some (.int .i64 x.s) ∧ w'.cell? ⟨g, o + k * 7 + 2, none⟩ = some (.string x.p) ∧ w'.cell? ⟨g, o + k * 7 + 3, none⟩ = some (.int .i64 x.k) ∧ w'.cell? ⟨g, o + k * 7 + 4, none⟩ = some (.int .i64 x.m) ∧ w'.cell? ⟨g, o + k * 7 + 5, none⟩ = some (.slice x.A x.l x.c) ∧ w'.cell? ⟨g, o + k * 7 + 6, none⟩ = some (.slice x.B x.bl x.bc)) ∧ (w'.cell? ⟨g2, o2 + k * 7, none⟩ = some (.int .i64 y.n) ∧ w'.cell? ⟨g2, o2 + k * 7 + 1, none⟩ = some (.int .i64 y.s) ∧ w'.cell? ⟨g2, o2 + k * 7 + 2, none⟩ = some (.string y.p) ∧ w'.cell? ⟨g2, o2 + k * 7 + 3, none⟩ = some (.int .i64 y.k) ∧ w'.cell? ⟨g2, o2 + k * 7 + 4, none⟩ = some (.int .i64 y.m) ∧ w'.cell? ⟨g2, o2 + k * 7 + 5, none⟩ = some (.slice y.A y.l y.c) ∧ w'.cell? ⟨g2, o2 + k * 7 + 6, none⟩ = some (.slice y.B y.bl y.bc))) (by kernel_rfl) (DX.out _ (RC.out.trans (Chg.refl [] wr).drew)) (fun hHeld => ?_)
   have C2 : Hid (Chg [] w wr.drew) := Lib.hid (RC.out.trans (Chg.refl [] wr).drew)
   clear hHeld RC
   generalize wr.drew = wc at *
   refine sy 0 17 rfl rfl ?_ (hS := (DX.out _ C2.out))
   try simp only [Act.put, sA, s0, s1]
   refine sy 1 18 rfl rfl ?_ (hS := (DX.out _ C2.out))
   try simp only [Act.put, sA, s0, s1]
   refine sy 2 19 rfl rfl ?_ (hS := (DX.out _ C2.out))
   try simp only [Act.put, sA, s0, s1]
   refine sy 3 20 rfl rfl ?_ (hS := (DX.out _ C2.out)) (hy := by (intro w hSw; (try dsimp only at hSw); obtain ⟨⟨q0, q1, q2, q3, q4, q5, q6⟩, ⟨p0, p1, p2, p3, p4, p5, p6⟩⟩ := hSw; go_simp; try with_reducible rfl))
   try simp only [Act.put, sA, s0, s1]
   refine sy 4 21 rfl rfl ?_ (hS := (DX.out _ C2.out))
   try simp only [Act.put, sA, s0, s1]
   refine sy 5 22 rfl rfl ?_ (hS := (DX.out _ C2.out))
   try simp only [Act.put, sA, s0, s1]
   refine sy 6 23 rfl rfl ?_ (hS := (DX.out _ C2.out))
   try simp only [Act.put, sA, s0, s1]
   refine sy 7 24 rfl rfl ?_ (hS := (DX.out _ C2.out)) (hy := by (intro w hSw; (try dsimp only at hSw); obtain ⟨⟨q0, q1, q2, q3, q4, q5, q6⟩, ⟨p0, p1, p2, p3, p4, p5, p6⟩⟩ := hSw; go_simp; try with_reducible rfl))
   try simp only [Act.put, sA, s0, s1]
   refine wpAnyH_ready (rs := [8]) (by kernel_rfl) (by simp) ?_
   refine AllReadyH.cons rfl (fun K hK => ?_) AllReadyH.nil
   replace hK := Lib.hid hK
   go_simp
   refine (sameev_any wc x y e f (RX.out.chg C2.out) (RY.out.chg C2.out) ⟨HQ.out.1 e (List.mem_of_getElem? EE.out.1), HQ.out.2 f (List.mem_of_getElem? EE.out.2)⟩).mono ?_
   rintro r wc ⟨rfl, hc⟩
   replace C2 := Lib.hid (C2.out.trans hc)
   clear hc
   generalize hs : sameP e f = sv
   refine hK.out _ _ (DX.out _ C2.out) (fun hHeld => ?_)
   clear hK K
   try simp only [Act.put, sA, s0, s1]
   refine sy 9 26 rfl rfl ?_ (hS := (DX.out _ C2.out))
   try simp only [Act.put, sA, s0, s1]
   refine wpAnyH_done (by kernel_rfl) ?_ _
   clear hHeld
   rcases sv with _ | _
   ·
    obtain rfl : v = false := by rw [← HV.out]; exact sameL_no k e f EE.out.1 EE.out.2 hs
    clear hs HV
    go_wp2
    go_ret
    exact ⟨rfl, C2.out⟩
   ·
    have TN : Hid (∀ (j : Nat) (a b : EvP), j < k + 1 → es[j]? = some a → fs[j]? = some b → sameP a b = true) := Lib.hid (fun j a b hj ha hb => by
     by_cases q : j = k
     ·
      subst q
      rw [EE.out.1] at ha
      rw [EE.out.2] at hb
      cases ha; cases hb
      exact hs
     ·
      exact TK.out j a b (by omega) ha hb)
    clear hs
    go_wp2
    go_round
    case rel => exact ⟨k + 1, by omega, by go_num, TN, C2.out⟩
    case measure => simp [RowKit.intOf]; omega
  ·
   obtain rfl : k = xs.length := by omega
   have i1 : ¬ (xs.length : Int) < (xs.length : Int) := by omega
   obtain rfl : v = true := by
    rw [← HV.out]
    exact sameL_at (by rw [← HX.out.1, ← HY.out.1]; exact NE_.out) (fun j a b ha hb => TK.out j a b (by have := (List.getElem?_eq_some_iff.1 ha).1; rw [← HX.out.1] at this; exact this) ha hb)
   clear HV
   go_wp2
   go_ret
   exact ⟨rfl, RC.out⟩
end
section
open Go.RowKit Go.Lib
set_option linter.unusedSimpArgs false
set_option linter.unusedVariables false


set_option maxHeartbeats 4000000 in
theorem set3_2 {w w0 : World} {z : Nat} {s0 s1 : Nat} {a0 a1 a2 : Value} {T : TypeId} {o : Obj} (v2 : Value) (q0 : w.heap[s0]? = some (.cells #[a0, a1, a2] T (0, 0))) (q1 : w.heap[s1]? = some o) (h : s0 ≠ s1) (hz : z ≤ s0) (C : Chg [] w0 w) (hw0 : w0.heap.size = z) :
  (w.setCell ⟨s0, 2, none⟩ v2).heap[s0]? = some (.cells #[a0, a1, v2] T (0, 0)) ∧ (w.setCell ⟨s0, 2, none⟩ v2).heap[s1]? = some o ∧ Chg [] w0 (w.setCell ⟨s0, 2, none⟩ v2) := by
 have p0 := heap_setCell_same _ s0 2 _ _ v2 q0
 refine ⟨p0, ?_, ?_⟩
 ·
  rw [Below.heap_setCell _ _ _ _ (by simp; exact fun e => h e.symm)]
  exact q1
 ·
  exact (C.put (by omega) 2 v2)
set_option maxHeartbeats 4000000 in
theorem set3_all {w w0 : World} {z : Nat} {s0 s1 : Nat} {a0 a1 a2 : Value} {T : TypeId} {o : Obj} (v0 v1 v2 : Value) (q0 : w.heap[s0]? = some (.cells #[a0, a1, a2] T (0, 0))) (q1 : w.heap[s1]? = some o) (h : s0 ≠ s1) (hz : z ≤ s0) (C : Chg [] w0 w) (hw0 : w0.heap.size = z) :
  (((w.setCell ⟨s0, 0, none⟩ v0).setCell ⟨s0, 1, none⟩ v1).setCell ⟨s0, 2, none⟩ v2).heap[s0]? = some (.cells #[v0, v1, v2] T (0, 0)) ∧ (((w.setCell ⟨s0, 0, none⟩ v0).setCell ⟨s0, 1, none⟩ v1).setCell ⟨s0, 2, none⟩ v2).heap[s1]? = some o ∧ Chg [] w0 (((w.setCell ⟨s0, 0, none⟩ v0).setCell ⟨s0, 1, none⟩ v1).setCell ⟨s0, 2, none⟩ v2) := by
 have p0 := heap_setCell_same _ s0 0 _ _ v0 q0
 have p1 := heap_setCell_same _ s0 1 _ _ v1 p0
 have p2 := heap_setCell_same _ s0 2 _ _ v2 p1
 refine ⟨p2, ?_, ?_⟩
 ·
  rw [Below.heap_setCell _ _ _ _ (by simp; exact fun e => h e.symm), Below.heap_setCell _ _ _ _ (by simp; exact fun e => h e.symm), Below.heap_setCell _ _ _ _ (by simp; exact fun e => h e.symm)]
  exact q1
 ·
  exact (((C.put (by omega) 0 v0).put (by omega) 1 v1).put (by omega) 2 v2)
set_option maxHeartbeats 4000000 in
theorem set7_3 {w w0 : World} {z : Nat} {s0 s1 : Nat} {a0 a1 a2 a3 a4 a5 a6 : Value} {T : TypeId} {o : Obj} (v3 v4 v5 : Value) (q0 : w.heap[s0]? = some (.cells #[a0, a1, a2, a3, a4, a5, a6] T (0, 0))) (q1 : w.heap[s1]? = some o) (h : s0 ≠ s1) (hz : z ≤ s0) (C : Chg [] w0 w) (hw0 : w0.heap.size = z) :
  (((w.setCell ⟨s0, 3, none⟩ v3).setCell ⟨s0, 4, none⟩ v4).setCell ⟨s0, 5, none⟩ v5).heap[s0]? = some (.cells #[a0, a1, a2, v3, v4, v5, a6] T (0, 0)) ∧ (((w.setCell ⟨s0, 3, none⟩ v3).setCell ⟨s0, 4, none⟩ v4).setCell ⟨s0, 5, none⟩ v5).heap[s1]? = some o ∧ Chg [] w0 (((w.setCell ⟨s0, 3, none⟩ v3).setCell ⟨s0, 4, none⟩ v4).setCell ⟨s0, 5, none⟩ v5) := by
 have p0 := heap_setCell_same _ s0 3 _ _ v3 q0
 have p1 := heap_setCell_same _ s0 4 _ _ v4 p0
 have p2 := heap_setCell_same _ s0 5 _ _ v5 p1
 refine ⟨p2, ?_, ?_⟩
 ·
  rw [Below.heap_setCell _ _ _ _ (by simp; exact fun e => h e.symm), Below.heap_setCell _ _ _ _ (by simp; exact fun e => h e.symm), Below.heap_setCell _ _ _ _ (by simp; exact fun e => h e.symm)]
  exact q1
 ·
  exact (((C.put (by omega) 3 v3).put (by omega) 4 v4).put (by omega) 5 v5)
set_option maxHeartbeats 4000000 in
theorem set7_1 {w w0 : World} {z : Nat} {s0 s1 : Nat} {a0 a1 a2 a3 a4 a5 a6 : Value} {T : TypeId} {o : Obj} (v6 : Value) (q0 : w.heap[s0]? = some (.cells #[a0, a1, a2, a3, a4, a5, a6] T (0, 0))) (q1 : w.heap[s1]? = some o) (h : s0 ≠ s1) (hz : z ≤ s0) (C : Chg [] w0 w) (hw0 : w0.heap.size = z) :
  (w.setCell ⟨s0, 6, none⟩ v6).heap[s0]? = some (.cells #[a0, a1, a2, a3, a4, a5, v6] T (0, 0)) ∧ (w.setCell ⟨s0, 6, none⟩ v6).heap[s1]? = some o ∧ Chg [] w0 (w.setCell ⟨s0, 6, none⟩ v6) := by
 have p0 := heap_setCell_same _ s0 6 _ _ v6 q0
 refine ⟨p0, ?_, ?_⟩
 ·
  rw [Below.heap_setCell _ _ _ _ (by simp; exact fun e => h e.symm)]
  exact q1
 ·
  exact (C.put (by omega) 6 v6)
set_option maxHeartbeats 4000000 in
theorem set7_all {w w0 : World} {z : Nat} {s0 s1 : Nat} {a0 a1 a2 a3 a4 a5 a6 : Value} {T : TypeId} {o : Obj} (v0 v1 v2 v3 v4 v5 v6 : Value) (q0 : w.heap[s0]? = some (.cells #[a0, a1, a2, a3, a4, a5, a6] T (0, 0))) (q1 : w.heap[s1]? = some o) (h : s0 ≠ s1) (hz : z ≤ s0) (C : Chg [] w0 w) (hw0 : w0.heap.size = z) :
  (((((((w.setCell ⟨s0, 0, none⟩ v0).setCell ⟨s0, 1, none⟩ v1).setCell ⟨s0, 2, none⟩ v2).setCell ⟨s0, 3, none⟩ v3).setCell ⟨s0, 4, none⟩ v4).setCell ⟨s0, 5, none⟩ v5).setCell ⟨s0, 6, none⟩ v6).heap[s0]? = some (.cells #[v0, v1, v2, v3, v4, v5, v6] T (0, 0)) ∧ (((((((w.setCell ⟨s0, 0, none⟩ v0).setCell ⟨s0, 1, none⟩ v1).setCell ⟨s0, 2, none⟩ v2).setCell ⟨s0, 3, none⟩ v3).setCell ⟨s0, 4, none⟩ v4).setCell ⟨s0, 5, none⟩ v5).setCell ⟨s0, 6, none⟩ v6).heap[s1]? = some o ∧ Chg [] w0 (((((((w.setCell ⟨s0, 0, none⟩ v0).setCell ⟨s0, 1, none⟩ v1).setCell ⟨s0, 2, none⟩ v2).setCell ⟨s0, 3, none⟩ v3).setCell ⟨s0, 4, none⟩ v4).setCell ⟨s0, 5, none⟩ v5).setCell ⟨s0, 6, none⟩ v6) := by
 have p0 := heap_setCell_same _ s0 0 _ _ v0 q0
 have p1 := heap_setCell_same _ s0 1 _ _ v1 p0
 have p2 := heap_setCell_same _ s0 2 _ _ v2 p1
 have p3 := heap_setCell_same _ s0 3 _ _ v3 p2
 have p4 := heap_setCell_same _ s0 4 _ _ v4 p3
 have p5 := heap_setCell_same _ s0 5 _ _ v5 p4
 have p6 := heap_setCell_same _ s0 6 _ _ v6 p5
 refine ⟨p6, ?_, ?_⟩
 ·
  rw [Below.heap_setCell _ _ _ _ (by simp; exact fun e => h e.symm), Below.heap_setCell _ _ _ _ (by simp; exact fun e => h e.symm), Below.heap_setCell _ _ _ _ (by simp; exact fun e => h e.symm), Below.heap_setCell _ _ _ _ (by simp; exact fun e => h e.symm), Below.heap_setCell _ _ _ _ (by simp; exact fun e => h e.symm), Below.heap_setCell _ _ _ _ (by simp; exact fun e => h e.symm), Below.heap_setCell _ _ _ _ (by simp; exact fun e => h e.symm)]
  exact q1
 ·
  exact (((((((C.put (by omega) 0 v0).put (by omega) 1 v1).put (by omega) 2 v2).put (by omega) 3 v3).put (by omega) 4 v4).put (by omega) 5 v5).put (by omega) 6 v6)

set_option maxRecDepth 100000 in
set_option maxHeartbeats 4000000 in
theorem copyeff_any (w : World) (k m : Int) (A : Option Addr) (n c : Nat) (ys : List UInt8) (h : Bs w A n ys) (hn : n ≤ 140737488351232) :
  Calls Tryz.prog 43 #[.agg #[.int .i64 k, .int .i64 m, .slice A n c]] w fun r w' => ∃ A' c', r = .returned (.agg #[.int .i64 k, .int .i64 m, .slice A' n c']) ∧ Fresh w w' A' c' ys := by
 obtain ⟨w2, hw, hc, b0, b1⟩ := news2 w (.cells #[.int .i64 k, .int .i64 m, .slice A n c] 26) (.cells #[.int .i64 0, .int .i64 0, .slice none 0 0] 26)
 have W2 := Lib.hid hw
 have H := Lib.hid (h.chg hc (by simp))
 have C := Lib.hid hc
 have HN := Lib.hid hn
 obtain ⟨g0, hg0⟩ : ∃ g, w.heap.size = g := ⟨_, rfl⟩
 obtain ⟨g1, hg1⟩ : ∃ g, w.heap.size + 1 = g := ⟨_, rfl⟩
 have SZ := Lib.hid hg0
 have S1 := Lib.hid hg1
 rw [hg0] at b0
 rw [hg1] at b1
 have B0 := Lib.hid b0
 have B1 := Lib.hid b1
 have NEg0 : Hid (g0 ≠ g1) := Lib.hid (by omega)
 have NEg1 : Hid (g1 ≠ g0) := Lib.hid (by omega)
 have LZg0 : Hid (g0 ≤ g0) := Lib.hid (Nat.le_refl _)
 have LZg1 : Hid (g0 ≤ g1) := Lib.hid (by omega)
 have L0 := Lib.hid (lt_of_heap b0)
 have L1 := Lib.hid (lt_of_heap b1)
 clear hw hc b0 b1 h hn hg0 hg1
 go_enter Tryz.func43, Tryz.ntmps43
 go_upto_region 1 with fail
 rw [← W2.out, S1.out, SZ.out]
 have z0 := cell_of B0.out 0
 have fz0 := free_of B0.out 0
 have z1 := cell_of B0.out 1
 have fz1 := free_of B0.out 1
 have z2 := cell_of B0.out 2
 have fz2 := free_of B0.out 2
 simp only [List.getElem?_toArray, List.getElem?_cons_succ, List.getElem?_cons_zero] at z0 z1 z2
 go_wp2_with fail
 refine (copy_any w2 A n c ys H.out HN.out).mono ?_
 rintro r w3 ⟨A3, c3, rfl, h3⟩
 clear z0 z1 z2 fz0 fz1 fz2
 replace B0 := Lib.hid (h3.2.2.at_ B0.out (by simp))
 replace B1 := Lib.hid (h3.2.2.at_ B1.out (by simp))
 have O3 := Lib.hid h3.1
 have N3 := Lib.hid h3.2.1
 have S2 := Lib.hid C.out.size
 replace C := Lib.hid (C.out.trans h3.2.2)
 have LT3 : Hid (∀ a, A3 = some a → a.block ≠ g0 ∧ a.block ≠ g1) := Lib.hid (fun a ha => by
  have q := N3.out a ha
  have r0 := L0.out
  have r1 := L1.out
  omega)
 clear h3
 have z0 := cell_of B0.out 0
 have fz0 := free_of B0.out 0
 have z1 := cell_of B0.out 1
 have fz1 := free_of B0.out 1
 have z2 := cell_of B0.out 2
 have fz2 := free_of B0.out 2
 simp only [List.getElem?_toArray, List.getElem?_cons_succ, List.getElem?_cons_zero] at z0 z1 z2
 go_upto_region 2 with fail
 clear z0 z1 z2 fz0 fz1 fz2
 obtain ⟨p0, p1, p2⟩ := set3_2 (.slice A3 n c3) B0.out B1.out NEg0.out LZg0.out C.out SZ.out
 generalize hW : (w3.setCell ⟨g0, 2, none⟩ (.slice A3 n c3)) = w4 at *
 replace B0 := Lib.hid p0
 replace B1 := Lib.hid p1
 have O4 := Lib.hid (O3.out.chg (S := [g0]) (hW ▸ (Chg.refl [g0] w3).put' 2 _) (fun a ha => by simp; exact (LT3.out a ha).1))
 replace C := Lib.hid p2
 clear p0 p1 p2 hW O3
 have z0 := cell_of B0.out 0
 have fz0 := free_of B0.out 0
 have z1 := cell_of B0.out 1
 have fz1 := free_of B0.out 1
 have z2 := cell_of B0.out 2
 have fz2 := free_of B0.out 2
 simp only [List.getElem?_toArray, List.getElem?_cons_succ, List.getElem?_cons_zero] at z0 z1 z2
 have y0 := cell_of B1.out 0
 have fy0 := free_of B1.out 0
 have y1 := cell_of B1.out 1
 have fy1 := free_of B1.out 1
 have y2 := cell_of B1.out 2
 have fy2 := free_of B1.out 2
 simp only [List.getElem?_toArray, List.getElem?_cons_succ, List.getElem?_cons_zero] at y0 y1 y2
 go_wp2
 clear z0 z1 z2 fz0 fz1 fz2
 clear y0 y1 y2 fy0 fy1 fy2
 obtain ⟨p0, p1, p2⟩ := set3_all (.int .i64 k) (.int .i64 m) (.slice A3 n c3) B1.out B0.out NEg1.out LZg1.out C.out SZ.out
 generalize hW : (((w4.setCell ⟨g1, 0, none⟩ (.int .i64 k)).setCell ⟨g1, 1, none⟩ (.int .i64 m)).setCell ⟨g1, 2, none⟩ (.slice A3 n c3)) = w5 at *
 have O5 := Lib.hid (O4.out.chg (S := [g1]) (hW ▸ (((Chg.refl [g1] w4).put' 0 _).put' 1 _).put' 2 _) (fun a ha => by simp; exact (LT3.out a ha).2))
 replace B1 := Lib.hid p0
 replace C := Lib.hid p2
 clear p0 p1 p2 hW O4
 have y0 := cell_of B1.out 0
 have y1 := cell_of B1.out 1
 have y2 := cell_of B1.out 2
 simp only [List.getElem?_toArray, List.getElem?_cons_succ, List.getElem?_cons_zero] at y0 y1 y2
 refine bodyPost_ret (v := .agg #[.int .i64 k, .int .i64 m, .slice A3 n c3]) (by simp [results, Tryz.results43, go_sem, y0, y1, y2]) rfl ?_
 exact ⟨A3, c3, rfl, O5.out, fun a ha => Nat.le_trans S2.out (N3.out a ha), C.out⟩
end
section
open Go.RowKit Go.Lib
set_option linter.unusedSimpArgs false
set_option linter.unusedVariables false


set_option maxRecDepth 100000 in
set_option maxHeartbeats 8000000 in
theorem copyev_any (w : World) (x : EvT) (e : EvP) (h : EvR w x e) (hs : e.b.length ≤ 140737488351232 ∧ e.q.length ≤ 100000) :
  Calls Tryz.prog 10 #[.agg #[.int .i64 x.n, .int .i64 x.s, .string x.p, .int .i64 x.k, .int .i64 x.m, .slice x.A x.l x.c, .slice x.B x.bl x.bc]] w fun r w' => ∃ A' c' B' d', r = .returned (.agg #[.int .i64 x.n, .int .i64 x.s, .string x.p, .int .i64 x.k, .int .i64 x.m, .slice A' x.l c', .slice B' x.bl d']) ∧ EvR w' ⟨x.n, x.s, x.p, x.k, x.m, A', x.l, c', B', x.bl, d'⟩ e ∧ OwnB w' A' c' e.b ∧ OwnK spanTy w' B' d' e.q ∧ (∀ a, A' = some a → w.heap.size ≤ a.block) ∧ (∀ a, B' = some a → w.heap.size ≤ a.block) ∧ (∀ a b, A' = some a → B' = some b → a.block ≠ b.block) ∧ Chg [] w w' := by
 obtain ⟨w2, hw, hc, b0, b1⟩ := news2 w (.cells #[.int .i64 x.n, .int .i64 x.s, .string x.p, .int .i64 x.k, .int .i64 x.m, .slice x.A x.l x.c, .slice x.B x.bl x.bc] 29) (.cells #[.int .i64 0, .int .i64 0, .string ⟨#[]⟩, .int .i64 0, .int .i64 0, .slice none 0 0, .slice none 0 0] 29)
 have W2 := Lib.hid hw
 have HR := Lib.hid (h.chg hc)
 have HR0 := Lib.hid h
 have C := Lib.hid hc
 have HS := Lib.hid hs
 obtain ⟨g0, hg0⟩ : ∃ g, w.heap.size = g := ⟨_, rfl⟩
 obtain ⟨g1, hg1⟩ : ∃ g, w.heap.size + 1 = g := ⟨_, rfl⟩
 have SZ := Lib.hid hg0
 have S1 := Lib.hid hg1
 rw [hg0] at b0
 rw [hg1] at b1
 have B0 := Lib.hid b0
 have B1 := Lib.hid b1
 have L0 := Lib.hid (lt_of_heap b0)
 have L1 := Lib.hid (lt_of_heap b1)
 have NEg0 : Hid (g0 ≠ g1) := Lib.hid (by omega)
 have NEg1 : Hid (g1 ≠ g0) := Lib.hid (by omega)
 have LZg0 : Hid (g0 ≤ g0) := Lib.hid (Nat.le_refl _)
 have LZg1 : Hid (g0 ≤ g1) := Lib.hid (by omega)
 clear hw hc b0 b1 h hs hg0 hg1
 go_enter Tryz.func10, Tryz.ntmps10
 go_upto_region 1 with fail
 rw [← W2.out, S1.out, SZ.out]
 have z0 := cell_of B0.out 0
 have fz0 := free_of B0.out 0
 have z1 := cell_of B0.out 1
 have fz1 := free_of B0.out 1
 have z2 := cell_of B0.out 2
 have fz2 := free_of B0.out 2
 have z3 := cell_of B0.out 3
 have fz3 := free_of B0.out 3
 have z4 := cell_of B0.out 4
 have fz4 := free_of B0.out 4
 have z5 := cell_of B0.out 5
 have fz5 := free_of B0.out 5
 have z6 := cell_of B0.out 6
 have fz6 := free_of B0.out 6
 simp only [List.getElem?_toArray, List.getElem?_cons_succ, List.getElem?_cons_zero] at z0 z1 z2 z3 z4 z5 z6
 go_wp2_with fail
 refine (copyeff_any w2 x.k x.m x.A x.l x.c e.b HR.out.A (by rw [HR.out.l]; exact HS.out.1)).mono ?_
 rintro r w3 ⟨A3, c3, rfl, h3⟩
 clear z0 z1 z2 z3 z4 z5 z6 fz0 fz1 fz2 fz3 fz4 fz5 fz6
 replace B0 := Lib.hid (h3.2.2.at_ B0.out (by simp))
 replace B1 := Lib.hid (h3.2.2.at_ B1.out (by simp))
 have O3 := Lib.hid h3.1
 have N3 := Lib.hid h3.2.1
 have S2 := Lib.hid C.out.size
 have LB : Hid (w2.heap.size ≤ w3.heap.size) := Lib.hid h3.2.2.size
 replace C := Lib.hid (C.out.trans h3.2.2)
 have LT3 : Hid (∀ a, A3 = some a → a.block ≠ g0 ∧ a.block ≠ g1) := Lib.hid (fun a ha => by
  have q := N3.out a ha
  have r0 := L0.out
  have r1 := L1.out
  omega)
 have LX3 : Hid (∀ a, A3 = some a → a.block < w3.heap.size) := Lib.hid (fun a ha => by
  obtain ⟨g, hg⟩ : ∃ g, a.block = g := ⟨_, rfl⟩
  rcases O3.out with ⟨q, _⟩ | ⟨g, full, q, hh, _⟩
  ·
   rw [q] at ha; cases ha
  ·
   rw [q] at ha; cases ha; exact lt_of_heap hh)
 clear h3
 have z0 := cell_of B0.out 0
 have fz0 := free_of B0.out 0
 have z1 := cell_of B0.out 1
 have fz1 := free_of B0.out 1
 have z2 := cell_of B0.out 2
 have fz2 := free_of B0.out 2
 have z3 := cell_of B0.out 3
 have fz3 := free_of B0.out 3
 have z4 := cell_of B0.out 4
 have fz4 := free_of B0.out 4
 have z5 := cell_of B0.out 5
 have fz5 := free_of B0.out 5
 have z6 := cell_of B0.out 6
 have fz6 := free_of B0.out 6
 simp only [List.getElem?_toArray, List.getElem?_cons_succ, List.getElem?_cons_zero] at z0 z1 z2 z3 z4 z5 z6
 go_upto_region 2 with fail
 clear z0 z1 z2 z3 z4 z5 z6 fz0 fz1 fz2 fz3 fz4 fz5 fz6
 obtain ⟨p0, p1, p2⟩ := set7_3 (.int .i64 x.k) (.int .i64 x.m) (.slice A3 x.l c3) B0.out B1.out NEg0.out LZg0.out C.out SZ.out
 generalize hW : (((w3.setCell ⟨g0, 3, none⟩ (.int .i64 x.k)).setCell ⟨g0, 4, none⟩ (.int .i64 x.m)).setCell ⟨g0, 5, none⟩ (.slice A3 x.l c3)) = w4 at *
 have O4 := Lib.hid (O3.out.chg (S := [g0]) (hW ▸ (((Chg.refl [g0] w3).put' 3 _).put' 4 _).put' 5 _) (fun a ha => by simp; exact (LT3.out a ha).1))
 replace B0 := Lib.hid p0
 replace B1 := Lib.hid p1
 have LW : Hid (w3.heap.size ≤ w4.heap.size) := Lib.hid (by rw [← hW]; simp [World.setCell])
 replace C := Lib.hid p2
 have RBp := Lib.hid (HR0.out.B.chg C.out (by simp))
 clear p0 p1 p2 hW O3
 have z0 := cell_of B0.out 0
 have fz0 := free_of B0.out 0
 have z1 := cell_of B0.out 1
 have fz1 := free_of B0.out 1
 have z2 := cell_of B0.out 2
 have fz2 := free_of B0.out 2
 have z3 := cell_of B0.out 3
 have fz3 := free_of B0.out 3
 have z4 := cell_of B0.out 4
 have fz4 := free_of B0.out 4
 have z5 := cell_of B0.out 5
 have fz5 := free_of B0.out 5
 have z6 := cell_of B0.out 6
 have fz6 := free_of B0.out 6
 simp only [List.getElem?_toArray, List.getElem?_cons_succ, List.getElem?_cons_zero] at z0 z1 z2 z3 z4 z5 z6
 go_wp2_with fail
 refine (copyspan_any w4 x.B x.bl x.bc e.q RBp.out (by have := HS.out.2; rw [HR.out.bl]; omega)).mono ?_
 rintro r w5 ⟨A5, c5, rfl, h5, hN5, hc5⟩
 clear z0 z1 z2 z3 z4 z5 z6 fz0 fz1 fz2 fz3 fz4 fz5 fz6
 replace B0 := Lib.hid (hc5.at_ B0.out (by simp))
 replace B1 := Lib.hid (hc5.at_ B1.out (by simp))
 replace O4 := Lib.hid (O4.out.chg hc5 (by simp))
 have P5 := Lib.hid h5
 have N5 : Hid (∀ a, A5 = some a → w3.heap.size ≤ a.block) := Lib.hid (fun a ha => Nat.le_trans LW.out (hN5 a ha))
 replace C := Lib.hid (C.out.trans hc5)
 have LT5 : Hid (∀ a, A5 = some a → a.block ≠ g0 ∧ a.block ≠ g1) := Lib.hid (fun a ha => by
  have q := N5.out a ha
  have r0 := L0.out
  have r1 := L1.out
  have r2 := LB.out
  omega)
 clear h5 hN5 hc5 RBp
 have z0 := cell_of B0.out 0
 have fz0 := free_of B0.out 0
 have z1 := cell_of B0.out 1
 have fz1 := free_of B0.out 1
 have z2 := cell_of B0.out 2
 have fz2 := free_of B0.out 2
 have z3 := cell_of B0.out 3
 have fz3 := free_of B0.out 3
 have z4 := cell_of B0.out 4
 have fz4 := free_of B0.out 4
 have z5 := cell_of B0.out 5
 have fz5 := free_of B0.out 5
 have z6 := cell_of B0.out 6
 have fz6 := free_of B0.out 6
 simp only [List.getElem?_toArray, List.getElem?_cons_succ, List.getElem?_cons_zero] at z0 z1 z2 z3 z4 z5 z6
 go_upto_region 3 with fail
 clear z0 z1 z2 z3 z4 z5 z6 fz0 fz1 fz2 fz3 fz4 fz5 fz6
 obtain ⟨p0, p1, p2⟩ := set7_1 (.slice A5 x.bl c5) B0.out B1.out NEg0.out LZg0.out C.out SZ.out
 generalize hW : (w5.setCell ⟨g0, 6, none⟩ (.slice A5 x.bl c5)) = w6 at *
 have O6 := Lib.hid (O4.out.chg (S := [g0]) (hW ▸ (Chg.refl [g0] w5).put' 6 _) (fun a ha => by simp; exact (LT3.out a ha).1))
 have P6 := Lib.hid (P5.out.chg (S := [g0]) (hW ▸ (Chg.refl [g0] w5).put' 6 _) (fun a ha => by simp; exact (LT5.out a ha).1))
 replace B0 := Lib.hid p0
 replace B1 := Lib.hid p1
 replace C := Lib.hid p2
 clear p0 p1 p2 hW O4 P5
 have z0 := cell_of B0.out 0
 have fz0 := free_of B0.out 0
 have z1 := cell_of B0.out 1
 have fz1 := free_of B0.out 1
 have z2 := cell_of B0.out 2
 have fz2 := free_of B0.out 2
 have z3 := cell_of B0.out 3
 have fz3 := free_of B0.out 3
 have z4 := cell_of B0.out 4
 have fz4 := free_of B0.out 4
 have z5 := cell_of B0.out 5
 have fz5 := free_of B0.out 5
 have z6 := cell_of B0.out 6
 have fz6 := free_of B0.out 6
 simp only [List.getElem?_toArray, List.getElem?_cons_succ, List.getElem?_cons_zero] at z0 z1 z2 z3 z4 z5 z6
 have y0 := cell_of B1.out 0
 have fy0 := free_of B1.out 0
 have y1 := cell_of B1.out 1
 have fy1 := free_of B1.out 1
 have y2 := cell_of B1.out 2
 have fy2 := free_of B1.out 2
 have y3 := cell_of B1.out 3
 have fy3 := free_of B1.out 3
 have y4 := cell_of B1.out 4
 have fy4 := free_of B1.out 4
 have y5 := cell_of B1.out 5
 have fy5 := free_of B1.out 5
 have y6 := cell_of B1.out 6
 have fy6 := free_of B1.out 6
 simp only [List.getElem?_toArray, List.getElem?_cons_succ, List.getElem?_cons_zero] at y0 y1 y2 y3 y4 y5 y6
 go_wp2
 clear z0 z1 z2 z3 z4 z5 z6 fz0 fz1 fz2 fz3 fz4 fz5 fz6
 clear y0 y1 y2 y3 y4 y5 y6 fy0 fy1 fy2 fy3 fy4 fy5 fy6
 obtain ⟨p0, p1, p2⟩ := set7_all (.int .i64 x.n) (.int .i64 x.s) (.string x.p) (.int .i64 x.k) (.int .i64 x.m) (.slice A3 x.l c3) (.slice A5 x.bl c5) B1.out B0.out NEg1.out LZg1.out C.out SZ.out
 generalize hW : (((((((w6.setCell ⟨g1, 0, none⟩ (.int .i64 x.n)).setCell ⟨g1, 1, none⟩ (.int .i64 x.s)).setCell ⟨g1, 2, none⟩ (.string x.p)).setCell ⟨g1, 3, none⟩ (.int .i64 x.k)).setCell ⟨g1, 4, none⟩ (.int .i64 x.m)).setCell ⟨g1, 5, none⟩ (.slice A3 x.l c3)).setCell ⟨g1, 6, none⟩ (.slice A5 x.bl c5)) = w7 at *
 have O7 := Lib.hid (O6.out.chg (S := [g1]) (hW ▸ (((((((Chg.refl [g1] w6).put' 0 _).put' 1 _).put' 2 _).put' 3 _).put' 4 _).put' 5 _).put' 6 _) (fun a ha => by simp; exact (LT3.out a ha).2))
 have P7 := Lib.hid (P6.out.chg (S := [g1]) (hW ▸ (((((((Chg.refl [g1] w6).put' 0 _).put' 1 _).put' 2 _).put' 3 _).put' 4 _).put' 5 _).put' 6 _) (fun a ha => by simp; exact (LT5.out a ha).2))
 replace B1 := Lib.hid p0
 replace C := Lib.hid p2
 clear p0 p1 p2 hW O6 P6
 have y0 := cell_of B1.out 0
 have y1 := cell_of B1.out 1
 have y2 := cell_of B1.out 2
 have y3 := cell_of B1.out 3
 have y4 := cell_of B1.out 4
 have y5 := cell_of B1.out 5
 have y6 := cell_of B1.out 6
 simp only [List.getElem?_toArray, List.getElem?_cons_succ, List.getElem?_cons_zero] at y0 y1 y2 y3 y4 y5 y6
 refine bodyPost_ret (v := .agg #[.int .i64 x.n, .int .i64 x.s, .string x.p, .int .i64 x.k, .int .i64 x.m, .slice A3 x.l c3, .slice A5 x.bl c5]) (by simp [results, Tryz.results10, go_sem, y0, y1, y2, y3, y4, y5, y6]) rfl ?_
 refine ⟨A3, c3, A5, c5, rfl, ⟨HR.out.n, HR.out.s, HR.out.p, HR.out.k, HR.out.m, HR.out.l, HR.out.bl, ?_, ?_⟩, O7.out, P7.out, fun a ha => Nat.le_trans S2.out (N3.out a ha), fun a ha => Nat.le_trans S2.out (Nat.le_trans LB.out (N5.out a ha)), fun a b ha hb => by have := LX3.out a ha; have := N5.out b hb; omega, C.out⟩
 ·
  have := O7.out.reads
  rw [← HR.out.l] at this
  exact this
 ·
  have := P7.out.reads
  rw [← HR.out.bl] at this
  exact this
end
section
namespace Ev
set_option linter.unusedVariables false

def big : Nat := 1152921504606846976

mutual
def closedV : Value → Bool
 | .pointer (some _) => false
 | .slice (some _) _ _ => false
 | .map (some _) => false
 | .chan (some _) => false
 | .func (.yield _) _ _ => false
 | .func _ xs ys => closedA xs && closedA ys
 | .iface _ v => closedV v
 | .agg cs => closedA cs
 | .tuple vs => closedA vs
 | .bool _ => true
 | .int _ _ => true
 | .float _ _ => true
 | .complex _ _ _ => true
 | .string _ => true
 | .pointer none => true
 | .slice none _ _ => true
 | .map none => true
 | .chan none => true
 | .nilFunc => true
 | .nilIface => true
def closedA : Array Value → Bool
 | ⟨l⟩ => closedL l
def closedL : List Value → Bool
 | [] => true
 | v :: l => closedV v && closedL l
end

def pureRun {α : Type} (P : Program) : Sem α → Option α
 | .pure a => some a
 | .program k => pureRun P (k P)
 | .mark _ k => pureRun P k
 | _ => none

inductive Tr (α : Type) where
 | nil
 | node (l : Tr α) (v : Option α) (r : Tr α)
structure Bx (α : Type) where
 fn : α
def getF (α : Type) (f : Nat) : Nat → Bx (Tr α → Option α) :=
 Nat.rec (motive := fun _ => Nat → Bx (Tr α → Option α)) (fun _ => ⟨fun _ => none⟩) (fun _ ih n =>
  bif Nat.beq n 0 then ⟨fun t => Tr.casesOn (motive := fun _ => Option α) t none (fun _ v _ => v)⟩
  else bif Nat.beq (n % 2) 1 then ⟨fun t => Tr.casesOn (motive := fun _ => Option α) t none (fun l _ _ => (ih (n / 2)).fn l)⟩
  else ⟨fun t => Tr.casesOn (motive := fun _ => Option α) t none (fun _ _ r => (ih (n / 2 - 1)).fn r)⟩) f
def setF (α : Type) (f : Nat) : Nat → Bx (Option α → Tr α → Tr α) :=
 Nat.rec (motive := fun _ => Nat → Bx (Option α → Tr α → Tr α)) (fun _ => ⟨fun _ t => t⟩) (fun _ ih n =>
  bif Nat.beq n 0 then ⟨fun x t => Tr.casesOn (motive := fun _ => Tr α) t (.node .nil x .nil) (fun l _ r => .node l x r)⟩
  else bif Nat.beq (n % 2) 1 then ⟨fun x t => Tr.casesOn (motive := fun _ => Tr α) t (.node ((ih (n / 2)).fn x .nil) none .nil) (fun l v r => .node ((ih (n / 2)).fn x l) v r)⟩
  else ⟨fun x t => Tr.casesOn (motive := fun _ => Tr α) t (.node .nil none ((ih (n / 2 - 1)).fn x .nil)) (fun l v r => .node l v ((ih (n / 2 - 1)).fn x r))⟩) f
def Tr.get {α : Type} (t : Tr α) (n : Nat) : Option α := (getF α (n + 1) n).fn t
def Tr.put {α : Type} (t : Tr α) (n : Nat) (x : Option α) : Tr α := (setF α (n + 1) n).fn x t

inductive SObj where
 | cells (cs : List Value) (T : TypeId) (more : Option Nat)
 | map (es : List (Value × Value × Nat)) (clock : Nat)
 | loop (state : LoopState) (pending : Option Code) (tmps : Tr Value) (N : Nat) (params : Array Tmp) (assign body : Code) (around : Nat)
 | deferred
 | sIter (s : ByteArray) (pos : Nat)
 | mIter (m : Option Nat) (since : Nat) (seen : List Nat) (last : Nat)

structure St where
 H : Tr SObj
 n : Nat
 W : List Nat

structure Fr where
 τ : Tr Value
 N : Nat
 ds : List Nat

inductive Out where
 | normal
 | exit (id : Nat)
 | goto (l : Nat)
 | ret

inductive Task where
 | code (c : Code) (rd : Option Nat) (fr : Fr) (st : St)
 | inSc (all c : Code) (rd : Option Nat) (fr : Fr) (st : St)
 | call (f : Nat) (args : List Value) (st : St)

structure Res where
 out : Out
 v : Value
 fr : Fr
 st : St

def goM {α β : Type} (f : α → Option (List β)) : List α → Option (List β)
 | [] => some []
 | a :: l => (f a).bind fun r => (goM f l).bind fun s => some (r ++ s)
def bindM {α β : Type} (x : Option (List α)) (f : α → Option (List β)) : Option (List β) := x.bind (goM f)
def lift1 {α : Type} (x : Option α) : Option (List α) := x.bind fun a => some [a]
def det {α : Type} (x : Option (List α)) : Option α := x.bind fun l => match l with
 | [a] => some a
 | _ => none

inductive Ext where
 | load (k : IntKind)
 | store
 | swap (k : IntKind)
 | cas (k : IntKind)
 | add (k : IntKind)
 | compare
 | overlaps (ps rs : List TypeId)
 | yes
structure Cx where
 n : Nat
 X : List (Nat × Ext)
 J : List Nat := []
 M : List (Nat × List Value × Value) := []
def eval (G : Cx) (τ : Tr Value) : Operand → Option Value
 | .tmp t => some ((τ.get t).getD undef)
 | .const v => bif closedV v then some v else none
 | .global g => bif Nat.blt g G.n then some (.pointer (some ⟨g, 0, none⟩)) else none
 | .func f => some (.func (.func f) #[] #[])
def evalL (G : Cx) (τ : Tr Value) : List Operand → Option (List Value)
 | [] => some []
 | x :: l => (eval G τ x).bind fun v => (evalL G τ l).bind fun vs => some (v :: vs)
def evalP (G : Cx) (τ : Tr Value) : List (Nat × Operand) → Option (List (Nat × Value))
 | [] => some []
 | (i, x) :: l => (eval G τ x).bind fun v => (evalP G τ l).bind fun vs => some ((i, v) :: vs)
def evalO (G : Cx) (τ : Tr Value) : Option Operand → Option (Option Value)
 | none => some none
 | some x => (eval G τ x).bind fun v => some (some v)

def put (fr : Fr) (d : Option Tmp) (v : Value) : Option Fr :=
 match d with
 | none => some fr
 | some t => bif Nat.blt t fr.N then some { fr with τ := fr.τ.put t (some v) } else none

def sub (l : List Value) (off n : Nat) : Option (List Value) :=
 bif Nat.ble (off + n) l.length then some ((l.drop off).take n) else none
def over (l : List Value) (off : Nat) (vs : List Value) : Option (List Value) :=
 bif Nat.ble (off + vs.length) l.length then some (l.take off ++ (vs ++ l.drop (off + vs.length))) else none

def St.new (st : St) (o : SObj) : St := { H := st.H.put st.n (some o), n := st.n + 1, W := st.W }
def St.upd (st : St) (i : Nat) (o : SObj) : St := { H := st.H.put i (some o), n := st.n, W := i :: st.W }
def St.cells (st : St) (i : Nat) : Option (List Value × TypeId × Option Nat) :=
 match st.H.get i with
 | some (.cells cs T m) => some (cs, T, m)
 | _ => none

def isAggP (P : Program) (t : TypeId) : Option Bool :=
 (P.underlying t).bind fun d => match d with
  | .struct _ => some true
  | .array _ _ => some true
  | _ => some false
def sizeP (P : Program) (t : TypeId) : Option Nat := (P.info? t).bind fun i => some i.size
def zeroP (P : Program) (t : TypeId) : Option Value := (P.info? t).bind fun i => i.zero.bind fun z => bif closedV z then some z else none

def partP (P : Program) (t : TypeId) (cs : List Value) (off : Nat) : Option Value :=
 (isAggP P t).bind fun g => match g with
  | true => (sizeP P t).bind fun n => (sub cs off n).bind fun l => some (.agg l.toArray)
  | false => cs[off]?
def loadP (P : Program) (t : TypeId) (a : Value) (st : St) : Option Value :=
 match a with
 | .pointer (some ⟨i, off, none⟩) => (st.cells i).bind fun (cs, _, _) => (isAggP P t).bind fun g =>
  match g with
  | true => (sizeP P t).bind fun n => (sub cs off n).bind fun l => some (.agg l.toArray)
  | false => cs[off]?
 | _ => none
def one (v : Value) : Bool :=
 match v with
 | .agg _ => false
 | .tuple _ => false
 | _ => true
def allOne : List Value → Bool
 | [] => true
 | v :: l => one v && allOne l
def storeP (P : Program) (t : TypeId) (a v : Value) (st : St) : Option St :=
 match a with
 | .pointer (some ⟨i, off, none⟩) => (st.cells i).bind fun (cs, T, m) => (sizeP P t).bind fun n =>
  let vs := v.cells.toList
  bif Nat.beq vs.length n && allOne vs then (over cs off vs).bind fun cs' => some (st.upd i (.cells cs' T m)) else none
 | _ => none

def places (P : Program) : List Field → Option (List (Nat × Nat))
 | [] => some []
 | f :: l => (sizeP P f.type).bind fun n => (places P l).bind fun ps => some ((f.offset, n) :: ps)

def buildP (P : Program) (t : TypeId) (parts : List (Nat × Value)) : Option Value :=
 (zeroP P t).bind fun z => (P.underlying t).bind fun d => match d with
  | .struct fields => (places P fields.toList).bind fun ps => (Instr.fill (fun i => ps[i]?) z.cells parts).bind fun cs => some (.agg cs)
  | .array _ elem => (sizeP P elem).bind fun n => (Instr.fill (fun i => some (i * n, n)) z.cells parts).bind fun cs => some (.agg cs)
  | _ => none
def zeros (z : List Value) : Nat → List Value
 | 0 => []
 | n + 1 => z ++ zeros z n
def buildSliceP (P : Program) (t : TypeId) (len : Nat) (parts : List (Nat × Value)) (st : St) : Option (Value × St) :=
 (P.underlying t).bind fun d => match d with
  | .slice elem => (sizeP P elem).bind fun n => (zeroP P elem).bind fun z =>
   bif Nat.ble (len * n) 16777216 && Nat.beq z.cells.size n && Nat.blt len big then
    (Instr.fill (fun i => some (i * n, n)) (zeros z.cells.toList len).toArray parts).bind fun cs =>
     some (.slice (some ⟨st.n, 0, none⟩) len len, st.new (.cells cs.toList elem none))
   else none
  | _ => none
def makeSliceP (P : Program) (t : TypeId) (l c : Value) (st : St) : Option (Value × St) :=
 (P.underlying t).bind fun d => match d, l, c with
  | .slice elem, .int .i64 (.ofNat l), .int .i64 (.ofNat c) => (P.info? elem).bind fun i => (zeroP P elem).bind fun z =>
   bif Nat.ble l c && Nat.ble (c * i.bytes) 140737488355328 && Nat.blt c big && Nat.beq z.cells.size i.size then
    some (.slice (some ⟨st.n, 0, none⟩) l c, st.new (.cells (zeros z.cells.toList c) elem none))
   else none
  | _, _, _ => none
def fieldP (P : Program) (t : TypeId) (x : Value) (f : Nat) : Option Value :=
 (P.underlying t).bind fun d => match d, x with
  | .struct fields, .agg cs => (fields[f]?).bind fun fd => partP P fd.type cs.toList fd.offset
  | _, _ => none
def fieldAddrP (P : Program) (t : TypeId) (x : Value) (f : Nat) : Option Value :=
 (P.underlying t).bind fun d => match d, x with
  | .struct fields, .pointer (some ⟨i, off, none⟩) => (fields[f]?).bind fun fd => (sizeP P fd.type).bind fun n =>
   bif Nat.beq n 0 then none else some (.pointer (some ⟨i, off + fd.offset, none⟩))
  | _, _ => none
def indexAddrP (P : Program) (t : TypeId) (x ix : Value) : Option Value :=
 (P.underlying t).bind fun d => match d, x, ix with
  | .slice elem, .slice (some ⟨i, off, none⟩) len _, .int _ (.ofNat k) => (sizeP P elem).bind fun n =>
   bif Nat.blt k len then some (.pointer (some ⟨i, off + k * n, none⟩)) else none
  | .array len elem, .pointer (some ⟨i, off, none⟩), .int _ (.ofNat k) => (sizeP P elem).bind fun n =>
   bif Nat.blt k len then some (.pointer (some ⟨i, off + k * n, none⟩)) else none
  | _, _, _ => none
def bound : Option Value → Nat → Option Nat
 | none, d => some d
 | some (.int _ (.ofNat k)), _ => some k
 | some _, _ => none
def slice3P (n i off cap : Nat) (lo hi mx : Option Value) (st : St) : Option Value :=
 (bound lo 0).bind fun l => match hi with
  | none => none
  | some hv => (bound (some hv) 0).bind fun h => (bound mx 0).bind fun m =>
   bif Nat.ble l h && Nat.ble h m && Nat.blt m big then
    bif Nat.ble big cap then
     (st.cells i).bind fun (cs, _, mo) => match mo with
      | some n' => bif Nat.beq n n' && Nat.beq off ((cap - big) * n) && Nat.ble (off + m * n) cs.length && Nat.blt 0 n then
       some (.slice (some ⟨i, bif Nat.beq m l then off else off + l * n, none⟩) (h - l) (m - l)) else none
      | none => none
    else bif Nat.ble m cap then some (.slice (some ⟨i, bif Nat.beq m l then off else off + l * n, none⟩) (h - l) (m - l)) else none
   else none
def sliceA (n i off len : Nat) (lo hi : Option Value) : Option Value :=
 (bound lo 0).bind fun l => (bound hi len).bind fun h =>
  bif Nat.ble l h && Nat.ble h len && Nat.blt len big then some (.slice (some ⟨i, bif Nat.beq len l then off else off + l * n, none⟩) (h - l) (len - l)) else none
def sliceP (P : Program) (t : TypeId) (x : Value) (lo hi mx : Option Value) (st : St) : Option Value :=
 (P.underlying t).bind fun d => match d, x, mx with
  | .slice elem, .slice (some ⟨i, off, none⟩) len cap, none => (sizeP P elem).bind fun n => (bound lo 0).bind fun l => (bound hi len).bind fun h =>
   bif Nat.ble l h then
    bif Nat.ble big cap then
     -- the row's end is not known: as far as it is, and not up to it
     (st.cells i).bind fun (cs, _, m) => match m with
      | some n' => bif Nat.beq n n' && Nat.beq off ((cap - big) * n) && Nat.ble (off + h * n) cs.length && Nat.blt 0 n then
       bif Nat.blt l h then some (.slice (some ⟨i, off + l * n, none⟩) (h - l) (cap + l))
       else bif Nat.beq l 0 then some (.slice (some ⟨i, off, none⟩) 0 cap) else some (.slice (some ⟨i, off + l * n, some off⟩) 0 (cap + l)) else none
      | none => none
    else bif Nat.ble h cap then some (.slice (some ⟨i, bif Nat.beq l cap then off else off + l * n, none⟩) (h - l) (cap - l)) else none
   else none
  | .slice elem, .slice (some ⟨i, off, none⟩) _ cap, some mx => (sizeP P elem).bind fun n => slice3P n i off cap lo hi (some mx) st
  | .array len elem, .pointer (some ⟨i, off, none⟩), none => (sizeP P elem).bind fun n => sliceA n i off len lo hi
  | .slice elem, .slice (some ⟨i, off, some o2⟩) len cap, none => (sizeP P elem).bind fun _ => (bound lo 0).bind fun l => (bound hi len).bind fun h =>
   bif Nat.beq l 0 && Nat.beq h 0 then some (.slice (some ⟨i, off, some o2⟩) 0 cap) else none
  | _, _, _ => none

def firstP (size n : Nat) (x : Value) (st : St) : Option (List Value) :=
 match x with
 | .slice (some ⟨i, off, none⟩) _ _ => (st.cells i).bind fun (cs, _, _) => sub cs off (n * size)
 | .slice none _ _ => bif Nat.beq n 0 then some [] else none
 | .slice (some ⟨_, _, some _⟩) _ _ => bif Nat.beq n 0 then some [] else none
 | .string s => bif Nat.beq size 1 && Nat.beq n s.data.toList.length then some (s.data.toList.map fun b => .int .u8 (b.toNat : Int)) else none
 | _ => none
def lenP : Value → Option Nat
 | .slice _ n _ => some n
 | .string s => some s.data.toList.length
 | _ => none
def isIntD : TypeDesc → Bool
 | .int _ => true
 | _ => false
def newP (bytes size : Nat) (z : Value) (dx : TypeDesc) (x : Value) (st : St) : Option (Nat × List Value) :=
 bif isIntD dx then
  match x with
  | .int .i64 (.ofNat n) => bif Nat.ble (n * bytes) 70368744177664 && Nat.ble n 70368744177664 then some (n, zeros z.cells.toList n) else none
  | _ => none
 else (lenP x).bind fun n => (firstP size n x st).bind fun news => some (n, news)
def appendP (P : Program) (ts : List TypeId) (s x : Value) (st : St) : Option (Value × St) :=
 match ts with
 | t :: tx :: _ => (P.underlying t).bind fun d => (P.underlying tx).bind fun dx => match d with
  | .slice elem => (P.info? elem).bind fun i => (zeroP P elem).bind fun z => (newP i.bytes i.size z dx x st).bind fun (n, news) =>
   bif Nat.beq i.size 0 || !(Nat.beq z.cells.size i.size) || !(allOne news) || !(Nat.beq news.length (n * i.size)) then none else
   match s with
   | .slice none 0 0 =>
    bif Nat.beq n 0 then some (s, st) else
    bif Nat.ble (n * i.bytes) 70368744177664 && Nat.ble n 70368744177664 then some (.slice (some ⟨st.n, 0, none⟩) n big, st.new (.cells news elem (some i.size))) else none
   | .slice (some ⟨b, off, none⟩) len cap => (st.cells b).bind fun (cs, T, m) =>
    bif Nat.ble big cap then
     bif Nat.beq cap big && Nat.beq off 0 && Nat.ble (len * i.size) cs.length && Nat.beq T elem then
      match m with
      | some n' =>
       bif Nat.beq n' i.size then
        bif Nat.beq n 0 then some (s, st) else
        bif Nat.ble ((len + n) * i.bytes) 70368744177664 && Nat.ble (len + n) 70368744177664 then
         some (.slice (some ⟨st.n, 0, none⟩) (len + n) big, { H := (st.H.put b none).put st.n (some (.cells (cs.take (len * i.size) ++ news) elem (some i.size))), n := st.n + 1, W := b :: st.W })
        else none
       else none
      | none => none
     else none
    else bif Nat.ble (len + n) cap then
     bif Nat.beq n 0 then some (s, st) else
     (over cs (off + len * i.size) news).bind fun cs' => some (.slice (some ⟨b, off, none⟩) (len + n) cap, st.upd b (.cells cs' T m))
    else
     (sub cs off (len * i.size)).bind fun olds =>
     bif Nat.ble ((len + n) * i.bytes) 70368744177664 && Nat.ble (len + n) 70368744177664 && Nat.ble len cap then
      some (.slice (some ⟨st.n, 0, none⟩) (len + n) big, st.new (.cells (olds ++ news) elem (some i.size)))
     else none
   | _ => none
  | _ => none
 | _ => none
def copyP (P : Program) (ts : List TypeId) (dst src : Value) (st : St) : Option (Value × St) :=
 match ts with
 | t :: _ => (P.underlying t).bind fun d => match d, dst with
  | .slice elem, .slice (some ⟨b, off, none⟩) len _ => (sizeP P elem).bind fun size => (lenP src).bind fun m =>
   (firstP size (Nat.min m len) src st).bind fun l => bif !(allOne l) then none else (st.cells b).bind fun (cs, T, mo) => (over cs off l).bind fun cs' =>
    some (.int .i64 (Nat.min m len : Nat), st.upd b (.cells cs' T mo))
  | _, _ => none
 | _ => none

def bytesOf : List Value → Option (List UInt8)
 | [] => some []
 | .int .u8 (.ofNat n) :: l => bif Nat.blt n 256 then (bytesOf l).bind fun bs => some (UInt8.ofNat n :: bs) else none
 | _ => none
def convP (P : Program) (src dst : TypeId) (x : Value) (st : St) : Option (Value × St) :=
 (P.underlying src).bind fun d => (P.underlying dst).bind fun d' => match d, d', x with
  | .slice e, .string, .slice (some ⟨b, off, none⟩) n _ => (P.underlying e).bind fun de => match de with
   | .int .u8 => (st.cells b).bind fun (cs, _, _) => (sub cs off n).bind fun l => (bytesOf l).bind fun bs => some (.string ⟨bs.toArray⟩, st)
   | _ => none
  | .string, .slice e, .string s => (P.underlying e).bind fun de => match de with
   | .int .u8 => bif Nat.blt s.data.toList.length 70368744177664 then
     some (.slice (some ⟨st.n, 0, none⟩) s.data.toList.length big, st.new (.cells (s.data.toList.map fun b => .int .u8 (b.toNat : Int)) e (some 1)))
    else none
   | _ => none
  | _, _, _ => none

def plainP (P : Program) (ev : Operand → Option Value) (o : Oper) : Option Value :=
 bif (match o.op with | .select _ _ => false | .defer _ => false | _ => true) && o.op.operands.toList.all (fun x => match ev x with | some v => closedV v | none => false) then
  match pureRun P (execOp (fun x => (ev x).getD undef) o) with
  | some (.value v) => bif closedV v then some v else none
  | some .skip => none
  | _ => none
 else none
def isSome : Value → Bool
 | .pointer (some _) | .slice (some _) _ _ | .map (some _) | .func _ _ _ | .iface _ _ => true
 | _ => false
def nilEq (x y : Value) : Bool :=
 match x, y with
 | .pointer (some _), .pointer none => true
 | .slice (some _) _ _, .slice none _ _ => true
 | .map (some _), .map none => true
 | .func _ _ _, .nilFunc => true
 | .iface _ _, .nilIface => true
 | _, _ => false
def nilKind (d : TypeDesc) (x : Value) : Bool :=
 match d, x with
 | .pointer _, .pointer _ => true
 | .slice _, .slice _ _ _ => true
 | .map _ _, .map _ => true
 | .func _ _ _, .func _ _ _ => true
 | .func _ _ _, .nilFunc => true
 | .interface _, .iface _ _ => true
 | .interface _, .nilIface => true
 | _, _ => false
def eqP (P : Program) (op : BinOp) (t : TypeId) (x y : Value) : Option Value :=
 bif nilEq x y || nilEq y x then
  (P.underlying t).bind fun d => bif nilKind d x then
   match op with
   | .eql => some (.bool false)
   | .neq => some (.bool true)
   | _ => none
  else none
 else none
def unmarked : Option Nat → Bool
 | none => true
 | some n => !(Nat.beq n 1)
def ptrEqP (P : Program) (op : BinOp) (t : TypeId) (x y : Value) (st : St) : Option Value :=
 match x, y with
 | .pointer (some ⟨i, o1, none⟩), .pointer (some ⟨j, o2, none⟩) => (P.underlying t).bind fun d => match d with
  | .pointer elem => (sizeP P elem).bind fun n => bif Nat.beq n 0 then none else
   (st.cells i).bind fun (_, _, m1) => (st.cells j).bind fun (_, _, m2) => bif unmarked m1 && unmarked m2 then
    match op with
    | .eql => some (.bool (Nat.beq i j && Nat.beq o1 o2))
    | .neq => some (.bool !(Nat.beq i j && Nat.beq o1 o2))
    | _ => none
   else none
  | _ => none
 | _, _ => none
def ltI : Int → Int → Bool
 | .ofNat a, .ofNat b => Nat.blt a b
 | .ofNat _, .negSucc _ => false
 | .negSucc _, .ofNat _ => true
 | .negSucc a, .negSucc b => Nat.blt b a
def eqI : Int → Int → Bool
 | .ofNat a, .ofNat b => Nat.beq a b
 | .negSucc a, .negSucc b => Nat.beq a b
 | _, _ => false
def lim : Nat := 9223372036854775808
def wrapQ (k : IntKind) (n : Int) : Int :=
 match k, n with
 | .i64, .ofNat m => bif Nat.blt m lim then .ofNat m else k.wrap n
 | .i64, .negSucc m => bif Nat.blt m lim then .negSucc m else k.wrap n
 | _, _ => k.wrap n
def intP (op : BinOp) (x y : Value) : Option Value :=
 match x, y with
 | .int k a, .int k' b => bif k == k' then
   match op with
   | .add => some (.int k (wrapQ k (a + b)))
   | .sub => some (.int k (wrapQ k (a - b)))
   | .eql => some (.bool (eqI a b))
   | .neq => some (.bool !(eqI a b))
   | .lss => some (.bool (ltI a b))
   | .leq => some (.bool !(ltI b a))
   | .gtr => some (.bool (ltI b a))
   | .geq => some (.bool !(ltI a b))
   | _ => none
  else none
 | _, _ => none
def assertP (P : Program) (x : Value) (asserted : TypeId) (ok : Bool) : Option Value :=
 match x with
 | .iface t v => (P.underlying asserted).bind fun d => match d with
  | .interface _ => none
  | _ => bif Nat.beq t asserted then some (match ok with | true => .tuple #[v, .bool true] | false => v) else none
 | _ => none

def rangeP (P : Program) (t : TypeId) (x : Value) (st : St) : Option (Value × St) :=
 (P.underlying t).bind fun d => match d, x with
  | .string, .string s => some (.pointer (some ⟨st.n, 0, none⟩), st.new (.sIter s 0))
  | _, _ => none
def nextSP (it : Value) (st : St) : Option (Value × St) :=
 match it with
 | .pointer (some ⟨i, 0, none⟩) => (st.H.get i).bind fun o => match o with
  | .sIter s pos => bif Nat.blt pos s.data.toList.length then
    some (.tuple #[.bool true, .int .i64 (pos : Nat), .int .i32 ((Utf8.decode s pos).1 : Nat)], st.upd i (.sIter s (pos + (Utf8.decode s pos).2)))
   else some (.tuple #[.bool false], st)
  | _ => none
 | _ => none
def St.map (st : St) (i : Nat) : Option (List (Value × Value × Nat) × Nat) :=
 match st.H.get i with
 | some (.map es c) => some (es, c)
 | _ => none
def dumb : List (Value × Value × Nat) → List MapEntry
 | [] => []
 | (k, _, n) :: l => { key := k, val := undef, born := n } :: dumb l
def findP (P : Program) (kt : TypeId) (empty : Bool) (k : Value) (es : List (Value × Value × Nat)) : Option (Option Nat) :=
 bif closedV k then (P.underlying kt).bind fun _ =>
  match pureRun P (Instr.checkKey empty 10000 kt k) with
  | some _ => (pureRun P (Instr.findKey kt k (dumb es))).bind fun r => some (r.map (·.1))
  | none => none
 else none
def stays (P : Program) (old new : Value) : Option Value := (pureRun P (Instr.keyThatStays old new)).bind fun k => bif closedV k then some k else none
def mapDesc (P : Program) (t : TypeId) : Option (TypeId × TypeId) := (P.underlying t).bind fun d => match d with
 | .map k e => some (k, e)
 | _ => none
def makeMapP (P : Program) (t : TypeId) (reserve : Option Value) (st : St) : Option (Value × St) :=
 match reserve with
 | none => some (.map (some st.n), st.new (.map [] 0))
 | some (.int _ _) => (mapDesc P t).bind fun _ => some (.map (some st.n), st.new (.map [] 0))
 | _ => none
def entries (m : Value) (st : St) : Option (List (Value × Value × Nat)) :=
 match m with
 | .map none => some []
 | .map (some i) => (st.map i).bind fun (es, _) => some es
 | _ => none
def nilL {α : Type} : List α → Bool
 | [] => true
 | _ => false
def rangeMP (P : Program) (t : TypeId) (x : Value) (st : St) : Option (Value × St) :=
 (P.underlying t).bind fun d => match d, x with
  | .map _ _, .map none => some (.pointer (some ⟨st.n, 0, none⟩), st.new (.mIter none 0 [] 0))
  | .map _ _, .map (some i) => (st.map i).bind fun q => some (.pointer (some ⟨st.n, 0, none⟩), st.new (.mIter (some i) q.2 [] q.2))
  | _, _ => none
def nextMP (it : Value) (st : St) : Option (Value × St) :=
 match it with
 | .pointer (some ⟨i, 0, none⟩) => (st.H.get i).bind fun o => match o with
  | .mIter m since seen last => match m with
   | none => some (.tuple #[.bool false], st)
   | some j => (st.map j).bind fun q =>
    bif !(nilL seen) && (!(nilL q.1) && q.1.all (fun e => Nat.ble last e.2.2)) then none else
    match q.1.filter (fun e => !(seen.contains e.2.2)) with
    | [] => some (.tuple #[.bool false], st)
    | [e] => bif Nat.blt e.2.2 since then some (.tuple #[.bool true, e.1, e.2.1], st.upd i (.mIter (some j) since (seen ++ [e.2.2]) q.2)) else none
    | _ => none
  | _ => none
 | _ => none
def nextMN (it : Value) (st : St) : Option (List (Value × St)) :=
 match it with
 | .pointer (some ⟨i, 0, none⟩) => (st.H.get i).bind fun o => match o with
  | .mIter m since seen last => match m with
   | none => some [(.tuple #[.bool false], st)]
   | some j => (st.map j).bind fun q =>
    bif !(nilL seen) && (!(nilL q.1) && q.1.all (fun e => Nat.ble last e.2.2)) then none else
    match q.1.filter (fun e => !(seen.contains e.2.2)) with
    | [] => some [(.tuple #[.bool false], st)]
    | l => bif l.all (fun e => Nat.blt e.2.2 since) then some (l.map fun e => (.tuple #[.bool true, e.1, e.2.1], st.upd i (.mIter (some j) since (seen ++ [e.2.2]) q.2))) else none
  | _ => none
 | _ => none
def entryP (it : Value) (st : St) : Option Value :=
 match it with
 | .pointer (some ⟨i, 0, none⟩) => (st.H.get i).bind fun o => match o with
  | .mIter (some j) _ seen last => (seen.getLast?).bind fun stamp => (st.map j).bind fun q =>
   bif Nat.beq q.2 last then (q.1.find? (fun e => Nat.beq e.2.2 stamp)).bind fun e => some (.tuple #[e.1, e.2.1]) else none
  | _ => none
 | _ => none
def nextP (it : Value) (isString : Bool) (st : St) : Option (Value × St) :=
 match isString with
 | true => nextSP it st
 | false => nextMP it st
def lookupP (P : Program) (t : TypeId) (m k : Value) (ok : Bool) (st : St) : Option Value :=
 (mapDesc P t).bind fun (kt, elem) => (entries m st).bind fun es => (findP P kt (nilL es) k es).bind fun r =>
  (match r with
   | some j => (es[j]?).bind fun e => some (e.2.1, true)
   | none => (zeroP P elem).bind fun z => some (z, false)).bind fun (v, b) => some (match ok with | true => .tuple #[v, .bool b] | false => v)
def mapUpdateP (P : Program) (t : TypeId) (m k x : Value) (st : St) : Option St :=
 match m with
 | .map (some i) => (mapDesc P t).bind fun (kt, _) => (st.map i).bind fun (es, c) => (findP P kt false k es).bind fun r => match r with
  | some j => (es[j]?).bind fun e => (stays P e.1 k).bind fun k' => some (st.upd i (.map (es.set j (k', x, e.2.2)) c))
  | none => some (st.upd i (.map (es ++ [(k, x, c)]) (c + 1)))
 | _ => none
def deleteP (P : Program) (ts : List TypeId) (m k : Value) (st : St) : Option (Value × St) :=
 match ts, m with
 | t :: _, .map (some i) => (mapDesc P t).bind fun (kt, _) => (st.map i).bind fun (es, c) => (findP P kt (nilL es) k es).bind fun r => match r with
  | some j => some (.tuple #[], st.upd i (.map (es.eraseIdx j) c))
  | none => some (.tuple #[], st.upd i (.map es c))
 | _, _ => none

def clearP (P : Program) (ts : List TypeId) (x : Value) (st : St) : Option (Value × St) :=
 match ts with
 | t :: _ => (P.underlying t).bind fun d => match d, x with
  | .slice elem, .slice (some ⟨b, off, none⟩) (n + 1) _ => (zeroP P elem).bind fun z => bif allOne z.cells.toList then
    (st.cells b).bind fun (cs, T, m) => (over cs off (zeros z.cells.toList (n + 1))).bind fun cs' => some (.tuple #[], st.upd b (.cells cs' T m))
   else none
  | _, _ => none
 | _ => none

def nilFnP (P : Program) (name : String) (first : Array Value) : Option Unit :=
 match first.toList with
 | .iface t _ :: _ => (P.info? t).bind fun i => (i.methods.toList.find? (·.name == name)).bind fun m => m.func.bind fun q =>
  bif m.path.isEmpty then
   match q.2 with
   | true => some ()
   | false => (P.underlying t).bind fun d => match d with
    | .pointer _ => none
    | _ => some ()
  else none
 | _ => none

def op1 (P : Program) (G : Cx) (τ : Tr Value) (o : Oper) (st : St) : Option (Value × St) :=
 let ev := eval G τ
 match o.op with
 | .move x | .assign x => (ev x).bind fun v => some (v, st)
 | .pick c a b => (ev c).bind fun c => match c with
  | .bool true => (ev a).bind fun v => (ev b).bind fun _ => some (v, st)
  | .bool false => (ev a).bind fun _ => (ev b).bind fun v => some (v, st)
  | _ => none
 | .extract t i => (ev t).bind fun t => match t with
  | .tuple vs => (vs[i]?).bind fun v => some (v, st)
  | _ => none
 | .alloc T => (zeroP P T).bind fun z => some (.pointer (some ⟨st.n, 0, none⟩), st.new (.cells z.cells.toList T none))
 | .box T x => (ev x).bind fun v => some (.pointer (some ⟨st.n, 0, none⟩), st.new (.cells v.cells.toList T none))
 | .build t ps => (evalP G τ ps.toList).bind fun ps => (buildP P t ps).bind fun v => some (v, st)
 | .buildSlice t n ps => (evalP G τ ps.toList).bind fun ps => buildSliceP P t n ps st
 | .makeSlice t l c => (ev l).bind fun l => (ev c).bind fun c => makeSliceP P t l c st
 | .load t a => (ev a).bind fun a => (loadP P t a st).bind fun v => some (v, st)
 | .store t a x => (ev a).bind fun a => (ev x).bind fun x => (storeP P t a x st).bind fun st => some (undef, st)
 | .nilCheck x => (ev x).bind fun v => match v with
  | .pointer (some _) => some (v, st)
  | .func (.func _) _ _ => some (v, st)
  | .iface _ _ => some (v, st)
  | .func (.method name) first _ => (nilFnP P name first).bind fun _ => some (v, st)
  | _ => none
 | .field t x f => (ev x).bind fun x => (fieldP P t x f).bind fun v => some (v, st)
 | .fieldAddr t x f => (ev x).bind fun x => (fieldAddrP P t x f).bind fun v => some (v, st)
 | .indexAddr t x i => (ev x).bind fun x => (ev i).bind fun i => (indexAddrP P t x i).bind fun v => some (v, st)
 | .slice t x lo hi mx => (ev x).bind fun x' => match x' with
  | .string _ => (plainP P ev o).bind fun v => some (v, st)
  | .slice none _ _ => (plainP P ev o).bind fun v => some (v, st)
  | _ => (evalO G τ lo).bind fun lo => (evalO G τ hi).bind fun hi => (evalO G τ mx).bind fun mx => (sliceP P t x' lo hi mx st).bind fun v => some (v, st)
 | .makeInterface t x => (ev x).bind fun v => (P.underlying t).bind fun d => match d with
  | .interface _ => none
  | _ => some (.iface t v, st)
 | .makeFunc fn a b => match fn with
  | .func _ => (evalL G τ a.toList).bind fun a => (evalL G τ b.toList).bind fun b => some (.func fn a.toArray b.toArray, st)
  | .method _ => (evalL G τ a.toList).bind fun a => (evalL G τ b.toList).bind fun b => some (.func fn a.toArray b.toArray, st)
  | _ => none
 | .convert src dst x => (ev x).bind fun x' => match convP P src dst x' st with
  | some r => some r
  | none => (plainP P ev o).bind fun v => some (v, st)
 | .typeAssert x _ T ok => (ev x).bind fun x => match assertP P x T ok with
  | some v => some (v, st)
  | none => (plainP P ev o).bind fun v => some (v, st)
 | .binOp op t x y _ => (ev x).bind fun a => (ev y).bind fun b => match intP op a b with
  | some v => some (v, st)
  | none => match eqP P op t a b with
   | some v => some (v, st)
   | none => match ptrEqP P op t a b st with
    | some v => some (v, st)
    | none => (plainP P ev o).bind fun v => some (v, st)
 | .range t x => (ev x).bind fun x => match x with
  | .map _ => rangeMP P t x st
  | _ => rangeP P t x st
 | .next it s => (ev it).bind fun it => nextP it s st
 | .entry it => (ev it).bind fun it => (entryP it st).bind fun v => some (v, st)
 | .makeMap t r => (evalO G τ r).bind fun r => makeMapP P t r st
 | .lookup t m k ok => (ev m).bind fun m => (ev k).bind fun k => (lookupP P t m k ok st).bind fun v => some (v, st)
 | .mapUpdate t m k x => (ev m).bind fun m => (ev k).bind fun k => (ev x).bind fun x => (mapUpdateP P t m k x st).bind fun st => some (undef, st)
 | .insert t m k x => (ev m).bind fun m => (ev k).bind fun k => (ev x).bind fun x => (mapUpdateP P t m k x st).bind fun st => some (undef, st)
 | .call { callee := .builtin b, args, argTypes } => (evalL G τ args.toList).bind fun vs => match b, vs with
  | .append, [s, x] => appendP P argTypes.toList s x st
  | .copy, [d, s] => copyP P argTypes.toList d s st
  | .delete, [m, k] => deleteP P argTypes.toList m k st
  | .len, [.map (some i)] => match argTypes.toList with
   | t :: _ => (mapDesc P t).bind fun _ => (st.map i).bind fun (es, _) => some (.int .i64 (es.length : Nat), st)
   | _ => none
  | .clear, [x] => clearP P argTypes.toList x st
  | .len, [.slice (some _) n _] => match argTypes.toList with
   | t :: _ => (P.underlying t).bind fun d => match d with
    | .slice _ => some (.int .i64 (n : Int), st)
    | _ => none
   | _ => none
  | .cap, [.slice (some _) _ c] => match argTypes.toList with
   | t :: _ => (P.underlying t).bind fun d => match d with
    | .slice _ => bif Nat.ble big c then none else some (.int .i64 (c : Int), st)
    | _ => none
   | _ => none
  | _, _ => (plainP P ev o).bind fun v => some (v, st)
 | .call _ => none
 | _ => (plainP P ev o).bind fun v => some (v, st)

def resL (P : Program) (τ : Tr Value) (st : St) : List ResultVar → Option (List Value)
 | [] => some []
 | .tmp t :: l => (resL P τ st l).bind fun vs => some ((τ.get t).getD undef :: vs)
 | .cell a t :: l => (loadP P t ((τ.get a).getD undef) st).bind fun v => (resL P τ st l).bind fun vs => some (v :: vs)
def resultP (P : Program) (fn : Func) (τ : Tr Value) (st : St) : Option Value :=
 (resL P τ st fn.results.toList).bind fun vs => match vs with
  | [v] => some v
  | _ => some (.tuple vs.toArray)

def wantedP (ops : List Oper) (τ : Tr Value) (o : Oper) : Bool :=
 match o.guard with
 | none => true
 | some (j, want) => match ops[j]? with
  | some oj => match oj.dst with
   | some d => match (τ.get d).getD undef with
    | .bool b => b == want
    | _ => false
   | none => false
  | none => false

inductive Lead where
 | fn (f : Nat) (args : List Value)
 | round (l : Nat) (args : List Value)
def leadP (P : Program) (f : Value) (args : List Value) : Option Lead :=
 match f with
 | .func (.func k) first captured => some (.fn k (first.toList ++ args ++ captured.toList))
 | .func (.yield l) first captured => bif first.isEmpty && captured.isEmpty then some (.round l args) else none
 | _ => none
def methodP (P : Program) (r : Value) (name : String) (args : List Value) : Option Lead :=
 match r with
 | .iface t v => (P.info? t).bind fun i => (i.methods.toList.find? (·.name == name)).bind fun m => m.func.bind fun (f, pr) =>
  bif m.path.isEmpty then (P.underlying t).bind fun d => match d, pr with
   | .pointer _, true => some (.fn f (v :: args))
   | .pointer _, false => none
   | _, false => some (.fn f (v :: args))
   | _, true => none
  else none
 | _ => none
def seedTr : Tr Value → List Tmp → List Value → Tr Value
 | τ, t :: ts, v :: vs => seedTr (τ.put t (some v)) ts vs
 | τ, _, _ => τ
def argTr (args : List Value) : Tr Value := seedTr .nil (List.range args.length) args

set_option linter.unusedVariables false
def chk (n : Nat) (x : Option (List Res)) : Option (List Res) := x.bind fun L => match L with
 | [] => none
 | r :: l => bif Nat.ble n r.st.n && l.all (fun r => Nat.ble n r.st.n) then some (r :: l) else none
def chkO (n : Nat) (x : Option (List (Fr × St))) : Option (List (Fr × St)) := x.bind fun L => match L with
 | [] => none
 | r :: l => bif Nat.ble n r.2.n && l.all (fun r => Nat.ble n r.2.n) then some (r :: l) else none
section
variable (P : Program) (G : Cx) (rec : Task → Option (List Res))

def findX : List (Nat × Ext) → Nat → Option Ext
 | [], _ => none
 | (f, e) :: l, g => bif Nat.beq f g then some e else findX l g
def cellP (a : Value) (st : St) : Option (Nat × Nat × List Value × TypeId × Option Nat × Value) :=
 match a with
 | .pointer (some ⟨i, off, none⟩) => (st.cells i).bind fun (cs, T, m) => (cs[off]?).bind fun v => some (i, off, cs, T, m, v)
 | _ => none
def bytesP (x : Value) (st : St) : Option (List UInt8) :=
 match x with
 | .slice (some ⟨i, off, none⟩) n _ => (firstP 1 n (.slice (some ⟨i, off, none⟩) n 0) st).bind bytesOf
 | .slice none 0 _ => some []
 | .string s => some s.data.toList
 | _ => none
def overlapsP (P : Program) (t : TypeId) (a b : Value) (st : St) : Option Value :=
 (P.underlying t).bind fun d => match d with
  | .slice elem => (sizeP P elem).bind fun size => match a, b with
   | .slice (some ⟨i, o1, none⟩) la _, .slice (some ⟨j, o2, none⟩) lb _ =>
    bif Nat.beq la 0 || Nat.beq lb 0 || Nat.beq size 0 then some (.bool false) else
    (st.cells i).bind fun (_, _, m1) => (st.cells j).bind fun (_, _, m2) =>
     bif unmarked m1 && unmarked m2 then
      bif Nat.beq i j then some (.bool (Nat.blt o1 (o2 + lb * size) && Nat.blt o2 (o1 + la * size))) else some (.bool false)
     else none
   | .slice none _ _, .slice none _ _ => some (.bool false)
   | .slice none _ _, .slice (some ⟨_, _, none⟩) _ _ => some (.bool false)
   | .slice (some ⟨_, _, none⟩) _ _, .slice none _ _ => some (.bool false)
   | _, _ => none
  | _ => none
def extP (e : Ext) (args : List Value) (st : St) : Option (Value × St) :=
 match e, args with
 | .load k, [a] => (cellP a st).bind fun (_, _, _, _, _, v) => match v with
  | .int k' n => bif k == k' then some (.int k' n, st) else none
  | _ => none
 | .store, [a, v] => (cellP a st).bind fun (i, off, cs, T, m, _) => bif one v then (over cs off [v]).bind fun cs' => some (undef, st.upd i (.cells cs' T m)) else none
 | .swap k, [a, v] => (cellP a st).bind fun (i, off, cs, T, m, u) => match u with
  | .int k' n => bif k == k' && one v then (over cs off [v]).bind fun cs' => some (.int k' n, st.upd i (.cells cs' T m)) else none
  | _ => none
 | .cas k, [a, .int _ y, v] => (cellP a st).bind fun (i, off, cs, T, m, u) => match u with
  | .int k' n => bif k == k' && one v then
    bif n == y then (over cs off [v]).bind fun cs' => some (.bool true, st.upd i (.cells cs' T m)) else some (.bool false, st)
   else none
  | _ => none
 | .compare, [a, b] => (bytesP a st).bind fun x => (bytesP b st).bind fun y => some (.int .i64 (Extern.BytealgCompare.cmp ⟨x.toArray⟩ ⟨y.toArray⟩), st)
 | .overlaps (t :: _) _, [a, b] => (overlapsP P t a b st).bind fun v => some (v, st)
 | .add k, [a, .int _ y] => (cellP a st).bind fun (i, off, cs, T, m, u) => match u with
  | .int k' n => bif k == k' then (over cs off [.int k (k.wrap (n + y))]).bind fun cs' => some (.int k (k.wrap (n + y)), st.upd i (.cells cs' T m)) else none
  | _ => none
 | _, _ => none
def toLead (ld : Lead) (st : St) : Option (List (Value × St)) :=
 match ld with
 | .fn f args => (P.funcs[f]?).bind fun fn => match fn.body with
  | some _ => bindM (rec (.call f args st)) fun r => some [(r.v, r.st)]
  | none => lift1 (match findX G.X f with
   | some e => extP P e args st
   | none => bif closedL args then match pureRun P (callFunc f args.toArray) with
    | some (.value v) => bif closedV v then some (v, st) else none
    | _ => none
   else none)
 | .round l args => match st.H.get l with
  | some (.loop .ready none τ N ps asg body ar) =>
   bif Nat.beq args.length ps.size && ps.toList.all (fun t => Nat.blt t N) then
    bindM (rec (.code asg (some l) { τ := seedTr τ ps.toList args, N, ds := [] } st)) fun r => match r.out with
     | .normal => match r.st.H.get l with
      | some (.loop .ready none τ1 N1 ps1 asg1 body1 ar1) =>
      bindM (chk r.st.n (rec (.code body (some l) r.fr (r.st.upd l (.loop .busy none τ1 N1 ps1 asg1 body1 ar1))))) fun r2 =>
       match r2.st.H.get l with
       | some (.loop .busy none τ2 N2 ps2 asg2 body2 ar2) => match r2.out with
        | .normal => some [(.bool true, r2.st.upd l (.loop .ready none τ2 N2 ps2 asg2 body2 ar2))]
        | .ret => some [(.bool false, r2.st.upd l (.loop .done (some .ret) τ2 N2 ps2 asg2 body2 ar2))]
        | .exit id => some [(.bool false, r2.st.upd l (.loop .done (some (.exit id)) τ2 N2 ps2 asg2 body2 ar2))]
        | .goto t => some [(.bool false, r2.st.upd l (.loop .done (some (.goto t)) τ2 N2 ps2 asg2 body2 ar2))]
       | _ => none
      | _ => none
     | _ => none
   else none
  | _ => none

def opP (τ : Tr Value) (o : Oper) (st : St) : Option (List (Value × St)) :=
 match o.op with
 | .call { callee := .value f, args, .. } => (eval G τ f).bind fun f => (evalL G τ args.toList).bind fun args => (leadP P f args).bind fun ld => toLead P G rec ld st
 | .call { callee := .invoke r name, args, .. } => (eval G τ r).bind fun r => (evalL G τ args.toList).bind fun args => (methodP P r name args).bind fun ld => toLead P G rec ld st
 | .next it false => (eval G τ it).bind fun it => nextMN it st
 | _ => lift1 (op1 P G τ o st)

def opsP (all : List Oper) : List Oper → Fr → St → Option (List (Fr × St))
 | [], fr, st => some [(fr, st)]
 | o :: l, fr, st => match wantedP all fr.τ o with
  | true => bindM (opP P G rec fr.τ o st) fun (v, st1) => (put fr o.dst v).bind fun fr => chkO st1.n (opsP all l fr st1)
  | false => (put fr o.dst undef).bind fun fr => opsP all l fr st

structure Rc where
 bef : Nat
 lo : Nat
 hi : Nat
 W : List Nat
 need : Option (List Nat)
 dst : Option Tmp
 reads : List Tmp
 H : Tr SObj
 v : Value
def inR (lo hi x : Nat) : Bool := Nat.ble lo x && Nat.blt x hi
def Rc.touch (R : Rc) (x : Nat) : Bool := R.W.contains x || inR R.lo R.hi x
def Rc.writes (R : Rc) (t : Nat) : Bool := match R.dst with | some d => Nat.beq d t | none => false
def restrictH (H : Tr SObj) : List Nat → Tr SObj
 | [] => .nil
 | i :: l => match H.get i with
  | some o => (restrictH H l).put i (some o)
  | none => restrictH H l
def stripH (H : Tr SObj) : List Nat → Tr SObj
 | [] => H
 | i :: l => (stripH H l).put i none
def applyH (H H' : Tr SObj) : List Nat → Tr SObj
 | [] => H
 | i :: l => (applyH H H' l).put i (H'.get i)
def restrictT (τ : Tr Value) : List Tmp → Tr Value
 | [] => .nil
 | t :: l => (restrictT τ l).put t (some ((τ.get t).getD undef))
def rangeL (lo n : Nat) : List Nat := match n with
 | 0 => []
 | n + 1 => lo :: rangeL (lo + 1) n
def readsOf (all : List Oper) (o : Oper) : List Tmp :=
  (o.op.operands.toList.filterMap fun | .tmp t => some t | _ => none) ++
  (match o.guard with
   | some (j, _) => match all[j]? with
     | some oj => oj.dst.toList
     | none => []
   | none => [])
def needV : Value → List Nat
 | .pointer (some a) => [a.block]
 | .slice (some a) _ _ => [a.block]
 | .map (some i) => [i]
 | _ => []
def needsOf (G : Cx) (τ : Tr Value) (o : Oper) : List Nat := match o.op with
 | .next _ _ | .load _ _ | .store _ _ _ | .binOp _ _ _ _ _ | .slice _ _ _ _ _ | .convert _ _ _ | .call _ | .lookup _ _ _ _ | .mapUpdate _ _ _ _ | .insert _ _ _ _ | .mapEntry _ _ _ | .entryStore _ _ _ _ => o.op.operands.toList.flatMap fun x => match eval G τ x with | some v => needV v | none => []
 | _ => []
def isLead (o : Oper) : Bool := match o.op with
 | .call { callee := .value _, .. } => true
 | .call { callee := .invoke _ _, .. } => true
 | _ => false
def befOf (recs : List Rc) (j : Nat) : List Edge → Option Nat
 | [] => some 0
 | e :: l => (befOf recs j l).bind fun s => bif Region.binds .any e then
  (bif Nat.blt e.on j then (recs[j - 1 - e.on]?).bind fun R => some (s ||| 2 ^ e.on ||| R.bef) else none) else some s
def disj (a b : List Nat) : Bool := a.all fun x => !(b.contains x)
def pairOk (R Q : Rc) : Bool :=
  disj R.W Q.W && R.W.all (fun x => !(inR Q.lo Q.hi x)) &&
  (match R.need with
   | some l => disj l Q.W && l.all (fun x => !(inR Q.lo Q.hi x))
   | none => Q.W.isEmpty) &&
  (match Q.need with
   | some l => disj l R.W && l.all (fun x => !(inR R.lo R.hi x))
   | none => R.W.isEmpty) &&
  R.reads.all (fun t => !(Q.writes t)) && Q.reads.all (fun t => !(R.writes t)) &&
  (match R.dst with | some d => !(Q.writes d) | none => true)
def allPairs (R : Rc) : List Rc → Bool
 | [] => true
 | Q :: l => (R.bef.testBit l.length || pairOk R Q) && allPairs R l
def strange (bef : Nat) : List Rc → List Nat
 | [] => []
 | Q :: l => bif bef.testBit l.length then strange bef l else rangeL Q.lo (Q.hi - Q.lo) ++ strange bef l

def drawOne (all : List Oper) (recs : List Rc) (o : Oper) (fr : Fr) (st : St) : Option (Rc × Fr × St) :=
  (befOf recs recs.length o.after.toList).bind fun bef =>
  let reads := readsOf all o
  let τ := restrictT fr.τ reads
  (match wantedP all τ o with
   | false => some (undef, ({ H := .nil, n := st.n, W := [] } : St), some ([] : List Nat))
   | true => bif isLead o then
       (det (opP P G rec τ o { H := stripH st.H (strange bef recs), n := st.n, W := [] })).bind fun (v, st') => some (v, st', none)
     else
       (det (opP P G rec τ o { H := restrictH st.H (needsOf G τ o), n := st.n, W := [] })).bind fun (v, st') => some (v, st', some (needsOf G τ o))).bind fun (v, st', need) =>
  let R : Rc := { bef, lo := st.n, hi := st'.n, W := st'.W.filter (fun x => Nat.blt x st.n), need, dst := o.dst, reads, H := st'.H, v }
  bif allPairs R recs && st'.W.all (fun x => Nat.blt x st'.n) && Nat.ble st.n st'.n then
    (put fr o.dst v).bind fun fr' => some (R, fr', { H := applyH st.H st'.H (R.W ++ rangeL st.n (st'.n - st.n)), n := st'.n, W := st'.W ++ st.W })
  else none
def drawP (all : List Oper) : List Oper → List Rc → Fr → St → Option (List Rc × Fr × St)
 | [], recs, fr, st => some (recs, fr, st)
 | o :: l, recs, fr, st => (drawOne P G rec all recs o fr st).bind fun (R, fr', st') => drawP all l (R :: recs) fr' st'

def codeP (c : Code) (rd : Option Nat) (fr : Fr) (st : St) : Option (List Res) :=
 match c with
 | .skip => some [⟨.normal, undef, fr, st⟩]
 | .label _ => some [⟨.normal, undef, fr, st⟩]
 | .ret => some [⟨.ret, undef, fr, st⟩]
 | .exit id => some [⟨.exit id, undef, fr, st⟩]
 | .goto l => some [⟨.goto l, undef, fr, st⟩]
 | .seq a b => bindM (rec (.code a rd fr st)) fun r => match r.out with
  | .normal => chk r.st.n (rec (.code b rd r.fr r.st))
  | _ => some [r]
 | .cond x a b => (eval G fr.τ x).bind fun v => match v with
  | .bool true => rec (.code a rd fr st)
  | .bool false => rec (.code b rd fr st)
  | _ => none
 | .block id b => bindM (rec (.code b rd fr st)) fun r => match r.out with
  | .exit i => bif Nat.beq i id then some [{ r with out := .normal }] else some [r]
  | _ => some [r]
 | .loop b => bindM (rec (.code b rd fr st)) fun r => match r.out with
  | .normal => chk r.st.n (rec (.code (.loop b) rd r.fr r.st))
  | _ => some [r]
 | .region _ ops draw => match draw with
  | false => bindM (opsP P G rec ops.toList ops.toList fr st) fun (fr, st) => some [⟨.normal, undef, fr, st⟩]
  | true => (drawP P G rec ops.toList ops.toList [] fr st).bind fun (_, fr, st) => some [⟨.normal, undef, fr, st⟩]
 | .scope b => rec (.inSc b b rd fr st)
 | .rangeFunc f ps asg body => (eval G fr.τ f).bind fun fv =>
  (match rd with
   | none => some (st.n + 1, (st.new .deferred).new (.loop .ready none fr.τ fr.N ps asg body st.n), st.n :: fr.ds)
   | some l => match st.H.get l with
    | some (.loop _ _ _ _ _ _ _ ar) => some (st.n, st.new (.loop .ready none fr.τ fr.N ps asg body ar), fr.ds)
    | _ => none).bind fun (L, st1, ds) =>
  (leadP P fv [.func (.yield L) #[] #[]]).bind fun ld => match ld with
   | .fn k args => (P.funcs[k]?).bind fun fn => fn.body.bind fun _ =>
    bindM (chk st1.n (rec (.call k args st1))) fun r => match r.st.H.get L with
     | some (.loop state pending τ N ps' asg' body' ar) => match state with
      | .busy => none
      | .exhausted => none
      | _ => match pending with
       | none => some [⟨.normal, undef, { fr with ds := ds }, r.st.upd L (.loop .exhausted pending τ N ps' asg' body' ar)⟩]
       | some c => chk r.st.n <| rec (.code c rd { fr with ds := ds } (r.st.upd L (.loop .exhausted pending τ N ps' asg' body' ar)))
     | _ => none
   | _ => none
 | _ => none

def scopedP (all c : Code) (rd : Option Nat) (fr : Fr) (st : St) : Option (List Res) :=
 bindM (rec (.code c rd fr st)) fun r => match r.out with
  | .goto l => match findLabel all l with
   | some rest => chk r.st.n (rec (.inSc all rest rd r.fr r.st))
   | none => some [r]
  | _ => some [r]
def shutP : List Nat → St → Option St
 | [], st => some st
 | d :: ds, st => match st.H.get d with
  | some .deferred => shutP ds { H := st.H.put d none, n := st.n, W := d :: st.W }
  | _ => none

def callP (f : Nat) (args : List Value) (st : St) : Option (List Res) :=
 (P.funcs[f]?).bind fun fn => fn.body.bind fun c =>
  bif Nat.ble args.length fn.ntmps then
   bindM (rec (.code c none { τ := argTr args, N := fn.ntmps, ds := [] } st)) fun r => match r.out with
    | .normal => (shutP r.fr.ds r.st).bind fun st => (resultP P fn r.fr.τ st).bind fun v => some [⟨.normal, v, r.fr, st⟩]
    | .ret => (shutP r.fr.ds r.st).bind fun st => (resultP P fn r.fr.τ st).bind fun v => some [⟨.normal, v, r.fr, st⟩]
    | _ => none
  else none

def eqV : Nat → Value → Value → Bool
 | 0, _, _ => false
 | d + 1, v, v' => match v, v' with
  | .bool a, .bool b => a == b
  | .int k a, .int k' b => k == k' && eqI a b
  | .string a, .string b => a.data.toList == b.data.toList
  | .pointer none, .pointer none => true
  | .pointer (some ⟨i, o, none⟩), .pointer (some ⟨j, q, none⟩) => Nat.beq i j && Nat.beq o q
  | .slice none n c, .slice none m e => Nat.beq n m && Nat.beq c e
  | .slice (some ⟨i, o, none⟩) n c, .slice (some ⟨j, q, none⟩) m e => Nat.beq i j && Nat.beq o q && Nat.beq n m && Nat.beq c e
  | .map none, .map none => true
  | .map (some i), .map (some j) => Nat.beq i j
  | .nilFunc, .nilFunc => true
  | .nilIface, .nilIface => true
  | .iface t x, .iface t' y => Nat.beq t t' && eqV d x y
  | .tuple ⟨l⟩, .tuple ⟨m⟩ => Nat.beq l.length m.length && (l.zip m).all fun q => eqV d q.1 q.2
  | .agg ⟨l⟩, .agg ⟨m⟩ => Nat.beq l.length m.length && (l.zip m).all fun q => eqV d q.1 q.2
  | _, _ => false
def eqVs (l m : List Value) : Bool := Nat.beq l.length m.length && (l.zip m).all fun q => eqV 5 q.1 q.2
def eqM : Option Nat → Option Nat → Bool
 | none, none => true
 | some a, some b => Nat.beq a b
 | _, _ => false
def eqEs (l m : List (Value × Value × Nat)) : Bool := Nat.beq l.length m.length && (l.zip m).all fun q => eqV 5 q.1.1 q.2.1 && eqV 5 q.1.2.1 q.2.2.1 && Nat.beq q.1.2.2 q.2.2.2
def eqO : SObj → SObj → Bool
 | .cells cs T m, .cells cs' T' m' => Nat.beq T T' && eqM m m' && eqVs cs cs'
 | .map es c, .map es' c' => Nat.beq c c' && eqEs es es'
 | _, _ => false
def meetAt (H : Tr SObj) (rs : List Res) (i : Nat) : Option SObj := match H.get i with
 | some o => bif rs.all (fun r => match r.st.H.get i with | some o' => eqO o o' | none => false) then some o else none
 | none => none
def putAll (H : Tr SObj) (f : Nat → Option SObj) : List Nat → Tr SObj
 | [] => H
 | i :: l => (putAll H f l).put i (f i)
def dedup : List Nat → List Nat
 | [] => []
 | i :: l => bif l.contains i then dedup l else i :: dedup l
def place (lo N : Nat) (r : Res) : Res := match r.v with
 | .slice (some ⟨i, off, none⟩) n c => bif Nat.ble lo i && Nat.blt i N then match r.st.H.get i with
   | some o => { out := r.out, v := .slice (some ⟨N, off, none⟩) n c, fr := r.fr, st := { H := (r.st.H.put i none).put N (some o), n := N + 1, W := r.st.W } }
   | none => r
  else r
 | _ => r
def joinL (st : St) (L : List Res) : Option (List Res) :=
 match L with
 | [r] => some [{ out := r.out, v := r.v, fr := r.fr, st := { H := r.st.H, n := r.st.n, W := r.st.W ++ st.W } }]
 | L =>
 let N := L.foldl (fun m r => bif Nat.ble m r.st.n then r.st.n else m) st.n
 match L.map (place st.n N) with
 | [] => none
 | r :: rs =>
  let Ws := dedup (((r :: rs).flatMap fun r => r.st.W).filter fun i => Nat.blt i st.n)
  bif rs.all (fun q => eqV 5 r.v q.v) && ((r :: rs).all (fun q => q.st.W.all fun i => Nat.blt i (N + 1)) && Ws.all (fun i => (st.H.get i).isSome)) then
   let H1 := putAll st.H (meetAt r.st.H rs) Ws
   let H2 := match Ws with
    | [] => putAll H1 (meetAt r.st.H rs) [N]
    | _ => putAll H1 (meetAt r.st.H rs) (rangeL st.n (N + 1 - st.n))
   some [⟨.normal, r.v, r.fr, { H := H2, n := N + 1, W := Ws ++ st.W }⟩]
  else none
def joinC (f : Nat) (args : List Value) (st : St) : Option (List Res) :=
 (callP P rec f args { H := st.H, n := st.n, W := [] }).bind (joinL st)

def findM : List (Nat × List Value × Value) → Nat → List Value → Option Value
 | [], _, _ => none
 | (g, xs, v) :: l, f, args => bif Nat.beq g f && eqVs args xs then some v else findM l f args
def callX (f : Nat) (args : List Value) (st : St) : Option (List Res) := match findX G.X f with
 | some .yes => match args with
  | [] => some [⟨.normal, .bool true, { τ := .nil, N := 0, ds := [] }, st⟩]
  | _ => none
 | _ => bif G.J.contains f then joinC P rec f args st else callP P rec f args st
def stepP (t : Task) : Option (List Res) :=
 match t with
 | .code c rd fr st => codeP P G rec c rd fr st
 | .inSc all c rd fr st => scopedP rec all c rd fr st
 | .call f args st => match findM G.M f args with
  | some v => some [⟨.normal, v, { τ := .nil, N := 0, ds := [] }, st⟩]
  | none => callX P G rec f args st
end
def run (P : Program) (G : Cx) (n : Nat) : Task → Option (List Res) :=
 Nat.rec (motive := fun _ => Task → Option (List Res)) (fun _ => none) (fun _ r => stepP P G r) n

end Ev
end
section
namespace Ev
set_option linter.unusedVariables false
set_option linter.unusedSimpArgs false

abbrev Ren := Nat → Option (Nat × Nat)
def Ren.le (r r' : Ren) : Prop := ∀ i x, r i = some x → r' i = some x
theorem Ren.le_refl (r : Ren) : r.le r := fun _ _ h => h
theorem Ren.le_trans {a b c : Ren} (h : a.le b) (k : b.le c) : a.le c := fun i x hx => k i x (h i x hx)

mutual
inductive VR (r : Ren) : Value → Value → Prop
 | bool (b) : VR r (.bool b) (.bool b)
 | int (k n) : VR r (.int k n) (.int k n)
 | float (k n) : VR r (.float k n) (.float k n)
 | complex (k a b) : VR r (.complex k a b) (.complex k a b)
 | string (s) : VR r (.string s) (.string s)
 | ptrNil : VR r (.pointer none) (.pointer none)
 | sliceNil (n c) : VR r (.slice none n c) (.slice none n c)
 | mapNil : VR r (.map none) (.map none)
 | chanNil : VR r (.chan none) (.chan none)
 | nilFunc : VR r .nilFunc .nilFunc
 | nilIface : VR r .nilIface .nilIface
 | ptr {i b k} (off sp) (h : r i = some (b, k)) : VR r (.pointer (some ⟨i, off, sp⟩)) (.pointer (some ⟨b, off, sp⟩))
 | map {i b k} (h : r i = some (b, k)) : VR r (.map (some i)) (.map (some b))
 | slice {i b k} (off n c) (h : r i = some (b, k)) (hc : c < big) : VR r (.slice (some ⟨i, off, none⟩) n c) (.slice (some ⟨b, off, none⟩) n c)
 | sliceBig {i b k} (off n c) (h : r i = some (b, k)) (hc : big ≤ c) : VR r (.slice (some ⟨i, off, none⟩) n c) (.slice (some ⟨b, off, none⟩) n (k - (c - big)))
 | sliceEnd {i b k} (off o2 c) (h : r i = some (b, k)) (hc : big ≤ c) : VR r (.slice (some ⟨i, off, some o2⟩) 0 c) (.slice (some ⟨b, if k ≤ c - big then o2 else off, none⟩) 0 (k - (c - big)))
 | yield {i b k} (h : r i = some (b, k)) {xs ys xs' ys'} (hx : LR r xs xs') (hy : LR r ys ys') : VR r (.func (.yield i) ⟨xs⟩ ⟨ys⟩) (.func (.yield b) ⟨xs'⟩ ⟨ys'⟩)
 | func (f) (hf : ∀ l, f ≠ .yield l) {xs ys xs' ys'} (hx : LR r xs xs') (hy : LR r ys ys') : VR r (.func f ⟨xs⟩ ⟨ys⟩) (.func f ⟨xs'⟩ ⟨ys'⟩)
 | iface (t) {v v'} (h : VR r v v') : VR r (.iface t v) (.iface t v')
 | agg {xs xs'} (h : LR r xs xs') : VR r (.agg ⟨xs⟩) (.agg ⟨xs'⟩)
 | tuple {xs xs'} (h : LR r xs xs') : VR r (.tuple ⟨xs⟩) (.tuple ⟨xs'⟩)
inductive LR (r : Ren) : List Value → List Value → Prop
 | nil : LR r [] []
 | cons {v v' l l'} (h : VR r v v') (hl : LR r l l') : LR r (v :: l) (v' :: l')
end

mutual
theorem VR.mono {r r' : Ren} (hr : r.le r') : ∀ {v v'}, VR r v v' → VR r' v v'
 | _, _, .bool b => .bool b
 | _, _, .int k n => .int k n
 | _, _, .float k n => .float k n
 | _, _, .complex k a b => .complex k a b
 | _, _, .string s => .string s
 | _, _, .ptrNil => .ptrNil
 | _, _, .sliceNil n c => .sliceNil n c
 | _, _, .mapNil => .mapNil
 | _, _, .chanNil => .chanNil
 | _, _, .nilFunc => .nilFunc
 | _, _, .nilIface => .nilIface
 | _, _, .ptr off sp h => .ptr off sp (hr _ _ h)
 | _, _, .map h => .map (hr _ _ h)
 | _, _, .slice off n c h hc => .slice off n c (hr _ _ h) hc
 | _, _, .sliceBig off n c h hc => .sliceBig off n c (hr _ _ h) hc
 | _, _, .sliceEnd off o2 c h hc => .sliceEnd off o2 c (hr _ _ h) hc
 | _, _, .yield h hx hy => .yield (hr _ _ h) (LR.mono hr hx) (LR.mono hr hy)
 | _, _, .func f hf hx hy => .func f hf (LR.mono hr hx) (LR.mono hr hy)
 | _, _, .iface t h => .iface t (VR.mono hr h)
 | _, _, .agg h => .agg (LR.mono hr h)
 | _, _, .tuple h => .tuple (LR.mono hr h)
theorem LR.mono {r r' : Ren} (hr : r.le r') : ∀ {l l'}, LR r l l' → LR r' l l'
 | _, _, .nil => .nil
 | _, _, .cons h hl => .cons (VR.mono hr h) (LR.mono hr hl)
end

mutual
theorem VR.closed {r : Ren} : ∀ (v : Value), closedV v = true → VR r v v
 | .bool b, _ => .bool b
 | .int k n, _ => .int k n
 | .float k n, _ => .float k n
 | .complex k a b, _ => .complex k a b
 | .string s, _ => .string s
 | .pointer none, _ => .ptrNil
 | .pointer (some _), h => by simp [closedV] at h
 | .slice none n c, _ => .sliceNil n c
 | .slice (some _) _ _, h => by simp [closedV] at h
 | .map none, _ => .mapNil
 | .map (some _), h => by simp [closedV] at h
 | .chan none, _ => .chanNil
 | .chan (some _), h => by simp [closedV] at h
 | .nilFunc, _ => .nilFunc
 | .nilIface, _ => .nilIface
 | .func (.yield _) _ _, h => by simp [closedV] at h
 | .func (.func f) ⟨xs⟩ ⟨ys⟩, h => .func _ (by simp) (LR.closed xs (by simp [closedV, closedA] at h; exact h.1)) (LR.closed ys (by simp [closedV, closedA] at h; exact h.2))
 | .func (.method f) ⟨xs⟩ ⟨ys⟩, h => .func _ (by simp) (LR.closed xs (by simp [closedV, closedA] at h; exact h.1)) (LR.closed ys (by simp [closedV, closedA] at h; exact h.2))
 | .func (.methodOf t f) ⟨xs⟩ ⟨ys⟩, h => .func _ (by simp) (LR.closed xs (by simp [closedV, closedA] at h; exact h.1)) (LR.closed ys (by simp [closedV, closedA] at h; exact h.2))
 | .func (.via t p f b) ⟨xs⟩ ⟨ys⟩, h => .func _ (by simp) (LR.closed xs (by simp [closedV, closedA] at h; exact h.1)) (LR.closed ys (by simp [closedV, closedA] at h; exact h.2))
 | .iface t v, h => .iface t (VR.closed v (by simpa [closedV] using h))
 | .agg ⟨xs⟩, h => .agg (LR.closed xs (by simpa [closedV, closedA] using h))
 | .tuple ⟨xs⟩, h => .tuple (LR.closed xs (by simpa [closedV, closedA] using h))
theorem LR.closed {r : Ren} : ∀ (l : List Value), closedL l = true → LR r l l
 | [], _ => .nil
 | v :: l, h => .cons (VR.closed v (by simp [closedL] at h; exact h.1)) (LR.closed l (by simp [closedL] at h; exact h.2))
end
mutual
theorem VR.closed_eq {r : Ren} : ∀ {v v' : Value}, VR r v v' → closedV v = true → v' = v
 | _, _, .bool b, _ => rfl
 | _, _, .int k n, _ => rfl
 | _, _, .float k n, _ => rfl
 | _, _, .complex k a b, _ => rfl
 | _, _, .string s, _ => rfl
 | _, _, .ptrNil, _ => rfl
 | _, _, .sliceNil n c, _ => rfl
 | _, _, .mapNil, _ => rfl
 | _, _, .chanNil, _ => rfl
 | _, _, .nilFunc, _ => rfl
 | _, _, .nilIface, _ => rfl
 | _, _, .ptr off sp h, hc => by simp [closedV] at hc
 | _, _, .map h, hc => by simp [closedV] at hc
 | _, _, .slice off n c h _, hc => by simp [closedV] at hc
 | _, _, .sliceBig off n c h _, hc => by simp [closedV] at hc
 | _, _, .sliceEnd off o2 c h _, hc => by simp [closedV] at hc
 | _, _, .yield h hx hy, hc => by simp [closedV] at hc
 | _, _, .func (xs := xs) (ys := ys) f hf hx hy, hc => by
  have hc' : closedL xs = true ∧ closedL ys = true := by
   cases f <;> first | exact absurd rfl (hf _) | simpa [closedV, closedA] using hc
  rw [LR.closed_eq hx hc'.1, LR.closed_eq hy hc'.2]
 | _, _, .iface t h, hc => by rw [VR.closed_eq h (by simpa [closedV] using hc)]
 | _, _, .agg h, hc => by rw [LR.closed_eq h (by simpa [closedV, closedA] using hc)]
 | _, _, .tuple h, hc => by rw [LR.closed_eq h (by simpa [closedV, closedA] using hc)]
theorem LR.closed_eq {r : Ren} : ∀ {l l' : List Value}, LR r l l' → closedL l = true → l' = l
 | _, _, .nil, _ => rfl
 | _, _, .cons h hl, hc => by
  simp [closedL] at hc
  rw [VR.closed_eq h hc.1, LR.closed_eq hl hc.2]
end

theorem LR.length {r : Ren} {l l'} : LR r l l' → l'.length = l.length
 | .nil => rfl
 | .cons _ h => by simp [h.length]
theorem LR.append {r : Ren} {a a' b b'} (h : LR r a a') (k : LR r b b') : LR r (a ++ b) (a' ++ b') := by
 induction a generalizing a' with
 | nil => cases h; exact k
 | cons v a ih => cases h with | cons hv hl => exact .cons hv (ih hl)
theorem LR.drop {r : Ren} : ∀ {l l'} (n : Nat), LR r l l' → LR r (l.drop n) (l'.drop n)
 | _, _, 0, h => h
 | _, _, _ + 1, .nil => .nil
 | _, _, n + 1, .cons _ h => LR.drop n h
theorem LR.take {r : Ren} : ∀ {l l'} (n : Nat), LR r l l' → LR r (l.take n) (l'.take n)
 | _, _, 0, _ => .nil
 | _, _, _ + 1, .nil => .nil
 | _, _, n + 1, .cons h hl => .cons h (LR.take n hl)
theorem LR.at_ {r : Ren} : ∀ {l l'} (n : Nat) {v}, LR r l l' → l[n]? = some v → ∃ v', l'[n]? = some v' ∧ VR r v v'
 | _, _, 0, v, .cons h _, e => by simp at e; subst e; exact ⟨_, rfl, h⟩
 | _, _, n + 1, v, .cons _ hl, e => by simp at e; simpa using LR.at_ n hl e
theorem LR.sub {r : Ren} {l l' : List Value} {off n : Nat} {s : List Value} (h : LR r l l') (hs : sub l off n = some s) :
  LR r s ((l'.drop off).take n) ∧ off + n ≤ l.length ∧ s.length = n := by
 unfold Ev.sub at hs
 cases hb : Nat.ble (off + n) l.length with
 | false => rw [hb] at hs; cases hs
 | true =>
  rw [hb] at hs
  cases hs
  have := Nat.le_of_ble_eq_true hb
  exact ⟨(h.drop off).take n, this, by simp; omega⟩
theorem VR.cells {r : Ren} {v v' : Value} (h : VR r v v') : LR r v.cells.toList v'.cells.toList := by
 have hh := h
 cases h <;> first | (rename_i h; exact h) | exact .cons hh .nil

def getO {α : Type} : Tr α → Nat → Option α
 | .nil, _ => none
 | .node l v r, n => if n = 0 then v else if n % 2 = 1 then getO l (n / 2) else getO r (n / 2 - 1)
theorem beq_dec (a b : Nat) : Nat.beq a b = decide (a = b) := by
 cases hd : Nat.beq a b with
 | true => have := Nat.eq_of_beq_eq_true hd; simp [this]
 | false => have := Nat.ne_of_beq_eq_false hd; simp [this]
theorem getO_nil {α : Type} (m : Nat) : getO (Tr.nil : Tr α) m = none := by cases m <;> rfl
theorem getF_ok {α : Type} : ∀ (f n : Nat) (t : Tr α), n < f → (getF α f n).fn t = getO t n
 | 0, _, _, h => absurd h (Nat.not_lt_zero _)
 | f + 1, n, t, h => by
  have ih := fun n t h => getF_ok (α := α) f n t h
  rw [show getF α (f + 1) n = (bif Nat.beq n 0 then ⟨fun t => Tr.casesOn (motive := fun _ => Option α) t none (fun _ v _ => v)⟩
   else bif Nat.beq (n % 2) 1 then ⟨fun t => Tr.casesOn (motive := fun _ => Option α) t none (fun l _ _ => (getF α f (n / 2)).fn l)⟩
   else ⟨fun t => Tr.casesOn (motive := fun _ => Option α) t none (fun _ _ r => (getF α f (n / 2 - 1)).fn r)⟩) from rfl]
  simp only [beq_dec, cond_eq_ite, decide_eq_true_eq]
  by_cases h0 : n = 0
  ·
   rw [if_pos h0]; cases t <;> simp [getO, h0]
  ·
   rw [if_neg h0]
   by_cases h1 : n % 2 = 1
   ·
    rw [if_pos h1]; cases t <;> simp [getO, h0, h1]; exact ih _ _ (by omega)
   ·
    rw [if_neg h1]; cases t <;> simp [getO, h0, h1]; exact ih _ _ (by omega)
theorem setF_ok {α : Type} : ∀ (f n m : Nat) (t : Tr α) (x : Option α), n < f → getO ((setF α f n).fn x t) m = if m = n then x else getO t m
 | 0, _, _, _, _, h => absurd h (Nat.not_lt_zero _)
 | f + 1, n, m, t, x, h => by
  have ih := fun n m t x h => setF_ok (α := α) f n m t x h
  rw [show setF α (f + 1) n = (bif Nat.beq n 0 then ⟨fun x t => Tr.casesOn (motive := fun _ => Tr α) t (.node .nil x .nil) (fun l _ r => .node l x r)⟩
   else bif Nat.beq (n % 2) 1 then ⟨fun x t => Tr.casesOn (motive := fun _ => Tr α) t (.node ((setF α f (n / 2)).fn x .nil) none .nil) (fun l v r => .node ((setF α f (n / 2)).fn x l) v r)⟩
   else ⟨fun x t => Tr.casesOn (motive := fun _ => Tr α) t (.node .nil none ((setF α f (n / 2 - 1)).fn x .nil)) (fun l v r => .node l v ((setF α f (n / 2 - 1)).fn x r))⟩) from rfl]
  simp only [beq_dec, cond_eq_ite, decide_eq_true_eq]
  by_cases h0 : n = 0
  ·
   rw [if_pos h0]
   subst h0
   cases t <;> simp only [getO, getO_nil] <;> (by_cases hm : m = 0 <;> simp [hm])
  ·
   rw [if_neg h0]
   by_cases h1 : n % 2 = 1
   ·
    rw [if_pos h1]
    cases t <;> simp only [getO, getO_nil, ih _ _ _ _ (by omega : n / 2 < f)] <;> (repeat' split) <;> first | rfl | omega
   ·
    rw [if_neg h1]
    cases t <;> simp only [getO, getO_nil, ih _ _ _ _ (by omega : n / 2 - 1 < f)] <;> (repeat' split) <;> first | rfl | omega
theorem Tr.get_eq {α : Type} (t : Tr α) (n : Nat) : t.get n = getO t n := getF_ok _ _ _ (by omega)
theorem Tr.get_put {α : Type} (t : Tr α) (n m : Nat) (x : Option α) : (t.put n x).get m = if m = n then x else t.get m := by
 rw [Tr.get_eq, Tr.get_eq]
 exact setF_ok _ _ _ _ _ (by omega)
theorem Tr.get_nil {α : Type} (m : Nat) : (Tr.nil : Tr α).get m = none := by rw [Tr.get_eq]; exact getO_nil m
end Ev
end
end Go.Proofs.YtgbidlhgmeglmaaGreatDoor
