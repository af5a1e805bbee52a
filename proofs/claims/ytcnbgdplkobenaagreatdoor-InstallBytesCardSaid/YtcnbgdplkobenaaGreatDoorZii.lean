/- The kit's SameEvent. The kit's CopyEffect. The statements' own functions over effects: SameEffect, LongEffect, of, file, awake. The kit's LongIntent, SameIntent, CopyIntent. The document's effects: Read. The document's Read of all bytes. -/
import Derived.Test.YtcnbgdplkobenaaGreatDoorZih
import Derived.Test.YtcnbgdplkobenaaGreatDoorZib
import Derived.Test.YtcnbgdplkobenaaGreatDoorZid
import Derived.Deep.Cut
import Derived.Test.YtcnbgdplkobenaaGreatDoorZia
import Derived.Test.YtcnbgdplkobenaaGreatDoorZie
import Derived.Test.YtcnbgdplkobenaaGreatDoorZic
import Derived.Deep.RegionHeld3
import Derived.Test.YtcnbgdplkobenaaGreatDoorZif
import Derived.Deep.QuietTactic
import Derived.BigQuiet
namespace Go.Proofs.YtcnbgdplkobenaaGreatDoor
section
open Go.RowKit Go.Lib
set_option linter.unusedSimpArgs false
set_option linter.unusedVariables false


def sameX (k m : Int) (xs : List UInt8) (k' m' : Int) (ys : List UInt8) : Bool := decide (k = k' ∧ m = m') && (xs == ys)
set_option maxRecDepth 100000 in
set_option maxHeartbeats 4000000 in
theorem sameeff_0 (w : World) (k m k' m' : Int) (A B : Option Addr) (n c n2 c2 : Nat) (xs ys : List UInt8) (h : Bs w A n xs) (h2 : Bs w B n2 ys) (hne : k ≠ k') :
    Calls Tryz.prog 56 #[.agg #[.int .i64 k, .int .i64 m, .slice A n c], .agg #[.int .i64 k', .int .i64 m', .slice B n2 c2]] w fun r w' => r = .returned (.bool false) ∧ Chg [] w w' := by
  obtain ⟨w2, hw, hc, b0, b1⟩ := news2 w (.cells #[.int .i64 k, .int .i64 m, .slice A n c] 24) (.cells #[.int .i64 k', .int .i64 m', .slice B n2 c2] 24)
  have W2 := Lib.hid hw
  have C := Lib.hid hc
  have H := Lib.hid (h.chg hc (by simp))
  have H2 := Lib.hid (h2.chg hc (by simp))
  have e1 : (k == k') = false := beq_eq_false_iff_ne.2 hne
  clear hne
  clear hw hc h h2
  go_enter Tryz.func56, Tryz.ntmps56
  go_upto_region 1 with fail
  rw [← W2.out]
  generalize w.heap.size + 1 = g1 at *
  generalize w.heap.size = g0 at *
  have z0 := cell_of b0 0
  have z1 := cell_of b0 1
  have z2 := cell_of b0 2
  have y0 := cell_of b1 0
  have y1 := cell_of b1 1
  have y2 := cell_of b1 2
  simp only [List.getElem?_toArray, List.getElem?_cons_succ, List.getElem?_cons_zero] at z0 z1 z2 y0 y1 y2
  clear b0 b1
  go_wp2
  go_ret
  exact ⟨rfl, C.out⟩
set_option maxRecDepth 100000 in
set_option maxHeartbeats 4000000 in
theorem sameeff_1 (w : World) (k m m' : Int) (A B : Option Addr) (n c n2 c2 : Nat) (xs ys : List UInt8) (h : Bs w A n xs) (h2 : Bs w B n2 ys) (hne : m ≠ m') :
    Calls Tryz.prog 56 #[.agg #[.int .i64 k, .int .i64 m, .slice A n c], .agg #[.int .i64 k, .int .i64 m', .slice B n2 c2]] w fun r w' => r = .returned (.bool false) ∧ Chg [] w w' := by
  obtain ⟨w2, hw, hc, b0, b1⟩ := news2 w (.cells #[.int .i64 k, .int .i64 m, .slice A n c] 24) (.cells #[.int .i64 k, .int .i64 m', .slice B n2 c2] 24)
  have W2 := Lib.hid hw
  have C := Lib.hid hc
  have H := Lib.hid (h.chg hc (by simp))
  have H2 := Lib.hid (h2.chg hc (by simp))
  have e2 : (m == m') = false := beq_eq_false_iff_ne.2 hne
  clear hne
  clear hw hc h h2
  go_enter Tryz.func56, Tryz.ntmps56
  go_upto_region 1 with fail
  rw [← W2.out]
  generalize w.heap.size + 1 = g1 at *
  generalize w.heap.size = g0 at *
  have z0 := cell_of b0 0
  have z1 := cell_of b0 1
  have z2 := cell_of b0 2
  have y0 := cell_of b1 0
  have y1 := cell_of b1 1
  have y2 := cell_of b1 2
  simp only [List.getElem?_toArray, List.getElem?_cons_succ, List.getElem?_cons_zero] at z0 z1 z2 y0 y1 y2
  clear b0 b1
  go_wp2
  go_ret
  exact ⟨rfl, C.out⟩
set_option maxRecDepth 100000 in
set_option maxHeartbeats 4000000 in
theorem sameeff_2 (w : World) (k m : Int) (A B : Option Addr) (n c n2 c2 : Nat) (xs ys : List UInt8) (h : Bs w A n xs) (h2 : Bs w B n2 ys) :
    Calls Tryz.prog 56 #[.agg #[.int .i64 k, .int .i64 m, .slice A n c], .agg #[.int .i64 k, .int .i64 m, .slice B n2 c2]] w fun r w' => r = .returned (.bool (xs == ys)) ∧ Chg [] w w' := by
  obtain ⟨w2, hw, hc, b0, b1⟩ := news2 w (.cells #[.int .i64 k, .int .i64 m, .slice A n c] 24) (.cells #[.int .i64 k, .int .i64 m, .slice B n2 c2] 24)
  have W2 := Lib.hid hw
  have C := Lib.hid hc
  have H := Lib.hid (h.chg hc (by simp))
  have H2 := Lib.hid (h2.chg hc (by simp))
  generalize hv : (xs == ys) = v
  have HV := Lib.hid hv
  clear hv
  clear hw hc h h2
  go_enter Tryz.func56, Tryz.ntmps56
  go_upto_region 1 with fail
  rw [← W2.out]
  generalize w.heap.size + 1 = g1 at *
  generalize w.heap.size = g0 at *
  have z0 := cell_of b0 0
  have z1 := cell_of b0 1
  have z2 := cell_of b0 2
  have y0 := cell_of b1 0
  have y1 := cell_of b1 1
  have y2 := cell_of b1 2
  simp only [List.getElem?_toArray, List.getElem?_cons_succ, List.getElem?_cons_zero] at z0 z1 z2 y0 y1 y2
  clear b0 b1
  go_wp2_with fail
  clear z0 z1 z2 y0 y1 y2
  refine (same_any w2 A B n n2 c c2 xs ys H.out H2.out).mono ?_
  rintro r w3 ⟨rfl, rfl⟩
  rw [HV.out]
  rcases v with _ | _
  all_goals (clear HV; go_wp2; go_ret; exact ⟨rfl, C.out⟩)
theorem sameeff_any (w : World) (k m k' m' : Int) (A B : Option Addr) (n c n2 c2 : Nat) (xs ys : List UInt8) (h : Bs w A n xs) (h2 : Bs w B n2 ys) :
    Calls Tryz.prog 56 #[.agg #[.int .i64 k, .int .i64 m, .slice A n c], .agg #[.int .i64 k', .int .i64 m', .slice B n2 c2]] w fun r w' => r = .returned (.bool (sameX k m xs k' m' ys)) ∧ Chg [] w w' := by
  unfold sameX
  by_cases hk : k = k'
  · subst hk
    by_cases hm : m = m'
    · subst hm
      have q := sameeff_2 w k m A B n c n2 c2 xs ys h h2
      simpa using q
    · have q := sameeff_1 w k m m' A B n c n2 c2 xs ys h h2 hm
      simpa [hm] using q
  · have q := sameeff_0 w k m k' m' A B n c n2 c2 xs ys h h2 hk
    simpa [hk] using q
end
section
open Go.RowKit Go.Lib
set_option linter.unusedSimpArgs false
set_option linter.unusedVariables false


set_option maxHeartbeats 4000000 in
theorem set3_2 {w w0 : World} {z : Nat} {s0 s1 : Nat} {a0 a1 a2 : Value} {T : TypeId} {o : Obj} (v2 : Value) (q0 : w.heap[s0]? = some (.cells #[a0, a1, a2] T (0, 0))) (q1 : w.heap[s1]? = some o) (h : s0 ≠ s1) (hz : z ≤ s0) (C : Chg [] w0 w) (hw0 : w0.heap.size = z) :
    (w.setCell ⟨s0, 2, none⟩ v2).heap[s0]? = some (.cells #[a0, a1, v2] T (0, 0)) ∧ (w.setCell ⟨s0, 2, none⟩ v2).heap[s1]? = some o ∧ Chg [] w0 (w.setCell ⟨s0, 2, none⟩ v2) := by
  have p0 := heap_setCell_same _ s0 2 _ _ v2 q0
  refine ⟨p0, ?_, ?_⟩
  · rw [Below.heap_setCell _ _ _ _ (by simp; exact fun e => h e.symm)]
    exact q1
  · exact (C.put (by omega) 2 v2)
set_option maxHeartbeats 4000000 in
theorem set3_all {w w0 : World} {z : Nat} {s0 s1 : Nat} {a0 a1 a2 : Value} {T : TypeId} {o : Obj} (v0 v1 v2 : Value) (q0 : w.heap[s0]? = some (.cells #[a0, a1, a2] T (0, 0))) (q1 : w.heap[s1]? = some o) (h : s0 ≠ s1) (hz : z ≤ s0) (C : Chg [] w0 w) (hw0 : w0.heap.size = z) :
    (((w.setCell ⟨s0, 0, none⟩ v0).setCell ⟨s0, 1, none⟩ v1).setCell ⟨s0, 2, none⟩ v2).heap[s0]? = some (.cells #[v0, v1, v2] T (0, 0)) ∧ (((w.setCell ⟨s0, 0, none⟩ v0).setCell ⟨s0, 1, none⟩ v1).setCell ⟨s0, 2, none⟩ v2).heap[s1]? = some o ∧ Chg [] w0 (((w.setCell ⟨s0, 0, none⟩ v0).setCell ⟨s0, 1, none⟩ v1).setCell ⟨s0, 2, none⟩ v2) := by
  have p0 := heap_setCell_same _ s0 0 _ _ v0 q0
  have p1 := heap_setCell_same _ s0 1 _ _ v1 p0
  have p2 := heap_setCell_same _ s0 2 _ _ v2 p1
  refine ⟨p2, ?_, ?_⟩
  · rw [Below.heap_setCell _ _ _ _ (by simp; exact fun e => h e.symm), Below.heap_setCell _ _ _ _ (by simp; exact fun e => h e.symm), Below.heap_setCell _ _ _ _ (by simp; exact fun e => h e.symm)]
    exact q1
  · exact (((C.put (by omega) 0 v0).put (by omega) 1 v1).put (by omega) 2 v2)
set_option maxRecDepth 100000 in
set_option maxHeartbeats 4000000 in
theorem copyeff_any (w : World) (k m : Int) (A : Option Addr) (n c : Nat) (ys : List UInt8) (h : Bs w A n ys) (hn : n ≤ 140737488351232) :
    Calls Tryz.prog 26 #[.agg #[.int .i64 k, .int .i64 m, .slice A n c]] w fun r w' => ∃ A' c', r = .returned (.agg #[.int .i64 k, .int .i64 m, .slice A' n c']) ∧ Fresh w w' A' c' ys := by
  obtain ⟨w2, hw, hc, b0, b1⟩ := news2 w (.cells #[.int .i64 k, .int .i64 m, .slice A n c] 24) (.cells #[.int .i64 0, .int .i64 0, .slice none 0 0] 24)
  have W2 := Lib.hid hw
  have H := Lib.hid (h.chg hc (by simp))
  have C := Lib.hid hc
  have HN := Lib.hid hn
  obtain ⟨g0, hg0⟩ : ∃ g, w.heap.size = g := ⟨_, rfl⟩
  obtain ⟨g1, hg1⟩ : ∃ g, w.heap.size + 1 = g := ⟨_, rfl⟩
  have SZ := Lib.hid hg0
  have S1 := Lib.hid hg1
  rw [hg0] at b0
  rw [hg1] at b1
  have B0 := Lib.hid b0
  have B1 := Lib.hid b1
  have NEg0 : Hid (g0 ≠ g1) := Lib.hid (by omega)
  have NEg1 : Hid (g1 ≠ g0) := Lib.hid (by omega)
  have LZg0 : Hid (g0 ≤ g0) := Lib.hid (Nat.le_refl _)
  have LZg1 : Hid (g0 ≤ g1) := Lib.hid (by omega)
  have L0 := Lib.hid (lt_of_heap b0)
  have L1 := Lib.hid (lt_of_heap b1)
  clear hw hc b0 b1 h hn hg0 hg1
  go_enter Tryz.func26, Tryz.ntmps26
  go_upto_region 1 with fail
  rw [← W2.out, S1.out, SZ.out]
  have z0 := cell_of B0.out 0
  have fz0 := free_of B0.out 0
  have z1 := cell_of B0.out 1
  have fz1 := free_of B0.out 1
  have z2 := cell_of B0.out 2
  have fz2 := free_of B0.out 2
  simp only [List.getElem?_toArray, List.getElem?_cons_succ, List.getElem?_cons_zero] at z0 z1 z2
  go_wp2_with fail
  refine (copy_any w2 A n c ys H.out HN.out).mono ?_
  rintro r w3 ⟨A3, c3, rfl, h3⟩
  clear z0 z1 z2 fz0 fz1 fz2
  replace B0 := Lib.hid (h3.2.2.at_ B0.out (by simp))
  replace B1 := Lib.hid (h3.2.2.at_ B1.out (by simp))
  have O3 := Lib.hid h3.1
  have N3 := Lib.hid h3.2.1
  have S2 := Lib.hid C.out.size
  replace C := Lib.hid (C.out.trans h3.2.2)
  have LT3 : Hid (∀ a, A3 = some a → a.block ≠ g0 ∧ a.block ≠ g1) := Lib.hid (fun a ha => by
    have q := N3.out a ha
    have r0 := L0.out
    have r1 := L1.out
    omega)
  clear h3
  have z0 := cell_of B0.out 0
  have fz0 := free_of B0.out 0
  have z1 := cell_of B0.out 1
  have fz1 := free_of B0.out 1
  have z2 := cell_of B0.out 2
  have fz2 := free_of B0.out 2
  simp only [List.getElem?_toArray, List.getElem?_cons_succ, List.getElem?_cons_zero] at z0 z1 z2
  go_upto_region 2 with fail
  clear z0 z1 z2 fz0 fz1 fz2
  obtain ⟨p0, p1, p2⟩ := set3_2 (.slice A3 n c3) B0.out B1.out NEg0.out LZg0.out C.out SZ.out
  generalize hW : (w3.setCell ⟨g0, 2, none⟩ (.slice A3 n c3)) = w4 at *
  replace B0 := Lib.hid p0
  replace B1 := Lib.hid p1
  have O4 := Lib.hid (O3.out.chg (S := [g0]) (hW ▸ (Chg.refl [g0] w3).put' 2 _) (fun a ha => by simp; exact (LT3.out a ha).1))
  replace C := Lib.hid p2
  clear p0 p1 p2 hW O3
  have z0 := cell_of B0.out 0
  have fz0 := free_of B0.out 0
  have z1 := cell_of B0.out 1
  have fz1 := free_of B0.out 1
  have z2 := cell_of B0.out 2
  have fz2 := free_of B0.out 2
  simp only [List.getElem?_toArray, List.getElem?_cons_succ, List.getElem?_cons_zero] at z0 z1 z2
  have y0 := cell_of B1.out 0
  have fy0 := free_of B1.out 0
  have y1 := cell_of B1.out 1
  have fy1 := free_of B1.out 1
  have y2 := cell_of B1.out 2
  have fy2 := free_of B1.out 2
  simp only [List.getElem?_toArray, List.getElem?_cons_succ, List.getElem?_cons_zero] at y0 y1 y2
  go_wp2
  clear z0 z1 z2 fz0 fz1 fz2
  clear y0 y1 y2 fy0 fy1 fy2
  obtain ⟨p0, p1, p2⟩ := set3_all (.int .i64 k) (.int .i64 m) (.slice A3 n c3) B1.out B0.out NEg1.out LZg1.out C.out SZ.out
  generalize hW : (((w4.setCell ⟨g1, 0, none⟩ (.int .i64 k)).setCell ⟨g1, 1, none⟩ (.int .i64 m)).setCell ⟨g1, 2, none⟩ (.slice A3 n c3)) = w5 at *
  have O5 := Lib.hid (O4.out.chg (S := [g1]) (hW ▸ (((Chg.refl [g1] w4).put' 0 _).put' 1 _).put' 2 _) (fun a ha => by simp; exact (LT3.out a ha).2))
  replace B1 := Lib.hid p0
  replace C := Lib.hid p2
  clear p0 p1 p2 hW O4
  have y0 := cell_of B1.out 0
  have y1 := cell_of B1.out 1
  have y2 := cell_of B1.out 2
  simp only [List.getElem?_toArray, List.getElem?_cons_succ, List.getElem?_cons_zero] at y0 y1 y2
  refine bodyPost_ret (v := .agg #[.int .i64 k, .int .i64 m, .slice A3 n c3]) (by simp [results, Tryz.results26, go_sem, y0, y1, y2]) rfl ?_
  exact ⟨A3, c3, rfl, O5.out, fun a ha => Nat.le_trans S2.out (N3.out a ha), C.out⟩
end
section
open Go.RowKit
set_option linter.unusedSimpArgs false

/-- Bytes that fill a block. -/
theorem Bs.fill {w : World} {g n : Nat} {C : Array Value} (xs : List UInt8) {fr : Nat × Nat} (hg : w.heap[g]? = some (.cells C 5 fr)) (h : C.toList = xs.map bv) (hn : xs.length = n) : Bs w (some ⟨g, 0, none⟩) n xs :=
  ⟨hn, fun j u hj => ⟨_, rfl, by
    rw [add_zero_lit]
    have e : w.cell? ⟨g, j, none⟩ = C[j]? := by simp [World.cell?, hg]
    rw [e, ← Array.getElem?_toList, h, List.getElem?_map, hj]; rfl⟩⟩

set_option maxHeartbeats 400000 in
theorem longeff_any (w : World) (k m : Int) (A : Option Addr) (n c : Nat) (_hn : n ≤ 140737488351232) :
    Calls Tryz.prog 19 #[.agg #[.int .i64 k, .int .i64 m, .slice A n c]] w fun e w' => e = .returned (.bool (decide ((1200 : Int) < n))) ∧ Chg [] w w' := by
  go_enter Tryz.func19, Tryz.ntmps19
  go_wp2
  go_ret
  exact ⟨rfl, (Chg.refl _ _).alloc _⟩
theorem Lent.lt {w : World} {g : Nat} {xs : List UInt8} (h : Lent w g xs) : g < w.heap.size := by
  obtain ⟨full, h1, _⟩ := h
  exact lt_of_heap h1
theorem Chg.c0 {w w' : World} {a : Addr} {u : Value} (hc : Chg [] w w') (h : w.cell? a = some u) : w'.cell? a = some u := hc.cell h (by simp)
end
section
open Go.RowKit Go.Lib
set_option linter.unusedSimpArgs false
set_option linter.unusedVariables false


def LongIP (x : InT) (w : World) (r : Ending) (w' : World) : Prop := ∃ v, r = .returned (.bool v) ∧ (v = false → x.p.size ≤ 100 ∧ x.l ≤ 1200 ∧ x.bl ≤ 100) ∧ Chg [] w w'
theorem LongIP.mk {x : InT} {w w' : World} (v : Bool) (h : v = false → x.p.size ≤ 100 ∧ x.l ≤ 1200 ∧ x.bl ≤ 100) (hc : Chg [] w w') : LongIP x w (.returned (.bool v)) w' := ⟨v, rfl, h, hc⟩
set_option maxRecDepth 100000 in
set_option maxHeartbeats 8000000 in
theorem longint_any (w : World) (x : InT) (hl : x.l ≤ 140737488351232) :
    Calls Tryz.prog 4 #[.agg #[.string x.p, .int .i64 x.k, .int .i64 x.m, .slice x.A x.l x.c, .slice x.B x.bl x.bc, .int .i64 x.t]] w fun r w' => LongIP x w r w' := by
  obtain ⟨w1, hw, hc, b0⟩ := news1 w (.cells #[.string x.p, .int .i64 x.k, .int .i64 x.m, .slice x.A x.l x.c, .slice x.B x.bl x.bc, .int .i64 x.t] 27)
  have W1 := Lib.hid hw
  have C := Lib.hid hc
  have B0 := Lib.hid b0
  have HL := Lib.hid hl
  clear hw hc b0 hl
  go_enter Tryz.func4, Tryz.ntmps4
  go_upto_region 1 with fail
  rw [← W1.out]
  generalize w.heap.size = g0 at *
  clear W1
  by_cases h1 : 100 < x.p.size
  · skip
    have h1 : (100 : Int) < (x.p.size : Int) := by omega
    have z0 := cell_of B0.out 0
    have z1 := cell_of B0.out 1
    have z2 := cell_of B0.out 2
    have z3 := cell_of B0.out 3
    have z4 := cell_of B0.out 4
    have z5 := cell_of B0.out 5
    simp only [List.getElem?_toArray, List.getElem?_cons_succ, List.getElem?_cons_zero] at z0 z1 z2 z3 z4 z5
    go_wp2
    go_ret
    exact LongIP.mk (x := x) true (fun h => by cases h) C.out
  have h1i : ¬ (100 : Int) < (x.p.size : Int) := by omega
  have z0 := cell_of B0.out 0
  have z1 := cell_of B0.out 1
  have z2 := cell_of B0.out 2
  have z3 := cell_of B0.out 3
  have z4 := cell_of B0.out 4
  have z5 := cell_of B0.out 5
  simp only [List.getElem?_toArray, List.getElem?_cons_succ, List.getElem?_cons_zero] at z0 z1 z2 z3 z4 z5
  go_wp2_with fail
  clear z0 z1 z2 z3 z4 z5
  refine (longeff_any w1 x.k x.m x.A x.l x.c HL.out).mono ?_
  rintro r w2 ⟨rfl, hc⟩
  replace C := Lib.hid (C.out.trans hc)
  replace B0 := Lib.hid (hc.at_ B0.out (by simp))
  clear hc
  by_cases h2 : (1200 : Int) < x.l
  · skip
    rw [decide_eq_true h2]
    clear h2
    have z0 := cell_of B0.out 0
    have z1 := cell_of B0.out 1
    have z2 := cell_of B0.out 2
    have z3 := cell_of B0.out 3
    have z4 := cell_of B0.out 4
    have z5 := cell_of B0.out 5
    simp only [List.getElem?_toArray, List.getElem?_cons_succ, List.getElem?_cons_zero] at z0 z1 z2 z3 z4 z5
    go_wp2
    go_ret
    exact LongIP.mk (x := x) true (fun h => by cases h) C.out
  rw [decide_eq_false h2]
  have H2 := Lib.hid h2
  have H1 := Lib.hid h1
  clear h2 h1 h1i
  have z0 := cell_of B0.out 0
  have z1 := cell_of B0.out 1
  have z2 := cell_of B0.out 2
  have z3 := cell_of B0.out 3
  have z4 := cell_of B0.out 4
  have z5 := cell_of B0.out 5
  simp only [List.getElem?_toArray, List.getElem?_cons_succ, List.getElem?_cons_zero] at z0 z1 z2 z3 z4 z5
  go_wp2
  go_ret
  exact LongIP.mk (x := x) (decide ((100 : Int) < (x.bl : Int))) (fun h => ⟨by have := H1.out; omega, by have := H2.out; omega, by have := of_decide_eq_false h; omega⟩) C.out

set_option maxRecDepth 100000 in
set_option maxHeartbeats 8000000 in
theorem sameint_yes (w : World) (x y : InT) (e : InP) (h : InR w x e) (h2 : InR w y e) (hq : e.q.length ≤ 140737488351232) :
    Calls Tryz.prog 13 #[.agg #[.string x.p, .int .i64 x.k, .int .i64 x.m, .slice x.A x.l x.c, .slice x.B x.bl x.bc, .int .i64 x.t], .agg #[.string y.p, .int .i64 y.k, .int .i64 y.m, .slice y.A y.l y.c, .slice y.B y.bl y.bc, .int .i64 y.t]] w fun r w' => r = .returned (.bool true) ∧ Chg [] w w' := by
  obtain ⟨w1, hw, hc, b0, b1⟩ := news2 w (.cells #[.string x.p, .int .i64 x.k, .int .i64 x.m, .slice x.A x.l x.c, .slice x.B x.bl x.bc, .int .i64 x.t] 27) (.cells #[.string y.p, .int .i64 y.k, .int .i64 y.m, .slice y.A y.l y.c, .slice y.B y.bl y.bc, .int .i64 y.t] 27)
  have W1 := Lib.hid hw
  have HX := Lib.hid (h.chg hc)
  have HY := Lib.hid (h2.chg hc)
  have C := Lib.hid hc
  have B0 := Lib.hid b0
  have B1 := Lib.hid b1
  have HQ := Lib.hid hq
  clear hw hc b0 b1 h h2 hq
  go_enter Tryz.func13, Tryz.ntmps13
  go_upto_region 1 with fail
  rw [← W1.out]
  generalize w.heap.size + 1 = g1 at *
  generalize w.heap.size = g0 at *
  clear W1
  have PP : Hid (x.p = y.p ∧ x.t = y.t ∧ x.k = y.k ∧ x.m = y.m) := Lib.hid ⟨by rw [HX.out.p, HY.out.p], by rw [HX.out.t, HY.out.t], by rw [HX.out.k, HY.out.k], by rw [HX.out.m, HY.out.m]⟩
  have e1 : ((x.p == y.p) : Bool) = true := by rw [HX.out.p, HY.out.p]; show ((e.p.toArray == e.p.toArray) : Bool) = true; simp
  have e3 : x.p.toList = y.p.toList := by rw [PP.out.1]
  have e4 : ((x.t == y.t) : Bool) = true := by rw [PP.out.2.1]; exact beq_self_eq_true _
  have SX : Hid (sameX x.k x.m e.b y.k y.m e.b = true) := Lib.hid (by rw [PP.out.2.2.1, PP.out.2.2.2]; unfold sameX; simp)
  have z0 := cell_of B0.out 0
  have z1 := cell_of B0.out 1
  have z2 := cell_of B0.out 2
  have z3 := cell_of B0.out 3
  have z4 := cell_of B0.out 4
  have z5 := cell_of B0.out 5
  simp only [List.getElem?_toArray, List.getElem?_cons_succ, List.getElem?_cons_zero] at z0 z1 z2 z3 z4 z5
  have y0 := cell_of B1.out 0
  have y1 := cell_of B1.out 1
  have y2 := cell_of B1.out 2
  have y3 := cell_of B1.out 3
  have y4 := cell_of B1.out 4
  have y5 := cell_of B1.out 5
  simp only [List.getElem?_toArray, List.getElem?_cons_succ, List.getElem?_cons_zero] at y0 y1 y2 y3 y4 y5
  go_wp2_with fail
  clear z0 z1 z2 z3 z4 z5
  clear y0 y1 y2 y3 y4 y5
  refine (sameeff_any w1 x.k x.m y.k y.m x.A y.A x.l x.c y.l y.c e.b e.b HX.out.A HY.out.A).mono ?_
  rintro r w2 ⟨rfl, hc⟩
  rw [SX.out]
  replace C := Lib.hid (C.out.trans hc)
  replace HX := Lib.hid (HX.out.chg hc)
  replace HY := Lib.hid (HY.out.chg hc)
  replace B0 := Lib.hid (hc.at_ B0.out (by simp))
  replace B1 := Lib.hid (hc.at_ B1.out (by simp))
  clear hc
  have z0 := cell_of B0.out 0
  have z1 := cell_of B0.out 1
  have z2 := cell_of B0.out 2
  have z3 := cell_of B0.out 3
  have z4 := cell_of B0.out 4
  have z5 := cell_of B0.out 5
  simp only [List.getElem?_toArray, List.getElem?_cons_succ, List.getElem?_cons_zero] at z0 z1 z2 z3 z4 z5
  have y0 := cell_of B1.out 0
  have y1 := cell_of B1.out 1
  have y2 := cell_of B1.out 2
  have y3 := cell_of B1.out 3
  have y4 := cell_of B1.out 4
  have y5 := cell_of B1.out 5
  simp only [List.getElem?_toArray, List.getElem?_cons_succ, List.getElem?_cons_zero] at y0 y1 y2 y3 y4 y5
  go_wp2_with fail
  clear z0 z1 z2 z3 z4 z5
  clear y0 y1 y2 y3 y4 y5
  refine (samespan_any w2 x.B y.B x.bl y.bl x.bc y.bc e.q e.q HX.out.B HY.out.B (by rw [HX.out.bl]; exact HQ.out) (by rw [HY.out.bl]; exact HQ.out)).mono ?_
  rintro r w3 ⟨rfl, hc⟩
  rw [beq_self_eq_true]
  replace C := Lib.hid (C.out.trans hc)
  replace HX := Lib.hid (HX.out.chg hc)
  replace HY := Lib.hid (HY.out.chg hc)
  replace B0 := Lib.hid (hc.at_ B0.out (by simp))
  replace B1 := Lib.hid (hc.at_ B1.out (by simp))
  clear hc
  have z0 := cell_of B0.out 0
  have z1 := cell_of B0.out 1
  have z2 := cell_of B0.out 2
  have z3 := cell_of B0.out 3
  have z4 := cell_of B0.out 4
  have z5 := cell_of B0.out 5
  simp only [List.getElem?_toArray, List.getElem?_cons_succ, List.getElem?_cons_zero] at z0 z1 z2 z3 z4 z5
  have y0 := cell_of B1.out 0
  have y1 := cell_of B1.out 1
  have y2 := cell_of B1.out 2
  have y3 := cell_of B1.out 3
  have y4 := cell_of B1.out 4
  have y5 := cell_of B1.out 5
  simp only [List.getElem?_toArray, List.getElem?_cons_succ, List.getElem?_cons_zero] at y0 y1 y2 y3 y4 y5
  go_wp2
  go_ret
  exact ⟨(by first | rfl | simp), C.out⟩

set_option maxRecDepth 100000 in
set_option maxHeartbeats 8000000 in
theorem copyint_any (w : World) (x : InT) (e : InP) (h : InR w x e) (hs : e.b.length ≤ 140737488351232 ∧ e.q.length ≤ 100000) :
    Calls Tryz.prog 6 #[.agg #[.string x.p, .int .i64 x.k, .int .i64 x.m, .slice x.A x.l x.c, .slice x.B x.bl x.bc, .int .i64 x.t]] w fun r w' => ∃ X : InT, r = .returned (.agg #[.string X.p, .int .i64 X.k, .int .i64 X.m, .slice X.A X.l X.c, .slice X.B X.bl X.bc, .int .i64 X.t]) ∧ InR w' X e ∧ Chg [] w w' := by
  obtain ⟨w1, hw, hc, b0, b1⟩ := news2 w (.cells #[.string x.p, .int .i64 x.k, .int .i64 x.m, .slice x.A x.l x.c, .slice x.B x.bl x.bc, .int .i64 x.t] 27) (.cells #[.string ⟨#[]⟩, .int .i64 0, .int .i64 0, .slice none 0 0, .slice none 0 0, .int .i64 0] 27)
  have W1 := Lib.hid hw
  have HX := Lib.hid (h.chg hc)
  have C := Lib.hid hc
  have B0 := Lib.hid b0
  have B1 := Lib.hid b1
  have HS := Lib.hid hs
  clear hw hc b0 b1 h hs
  go_enter Tryz.func6, Tryz.ntmps6
  go_upto_region 1 with fail
  rw [← W1.out]
  generalize hz1 : w.heap.size + 1 = g1 at *
  generalize hz0 : w.heap.size = g0 at *
  have Z := Lib.hid (And.intro hz0 (hz1))
  have n01 : ¬ g0 = g1 := by omega
  have n10 : ¬ g1 = g0 := by omega
  clear W1 hz0 hz1
  have DX : Hid (∀ w', Chg [] w1 w' → w'.cell? ⟨g0, 0, none⟩ = some (.string x.p) ∧ w'.cell? ⟨g0, 1, none⟩ = some (.int .i64 x.k) ∧ w'.cell? ⟨g0, 2, none⟩ = some (.int .i64 x.m) ∧ w'.cell? ⟨g0, 3, none⟩ = some (.slice x.A x.l x.c) ∧ w'.cell? ⟨g0, 4, none⟩ = some (.slice x.B x.bl x.bc) ∧ w'.cell? ⟨g0, 5, none⟩ = some (.int .i64 x.t)) := Lib.hid (fun w' hc => by
    have b := hc.at_ B0.out (by simp)
    exact ⟨cell_of b 0, cell_of b 1, cell_of b 2, cell_of b 3, cell_of b 4, cell_of b 5⟩)
  refine wp_region_held_drew (S := fun w' => w'.cell? ⟨g0, 0, none⟩ = some (.string x.p) ∧ w'.cell? ⟨g0, 1, none⟩ = some (.int .i64 x.k) ∧ w'.cell? ⟨g0, 2, none⟩ = some (.int .i64 x.m) ∧ w'.cell? ⟨g0, 3, none⟩ = some (.slice x.A x.l x.c) ∧ w'.cell? ⟨g0, 4, none⟩ = some (.slice x.B x.bl x.bc) ∧ w'.cell? ⟨g0, 5, none⟩ = some (.int .i64 x.t)) (by kernel_rfl) (DX.out _ (Chg.refl [] w1).drew) (fun hHeld => ?_)
  have CC : Hid (Chg [] w1 w1.drew) := Lib.hid (Chg.refl [] w1).drew
  clear hHeld
  obtain ⟨wc, hwc⟩ : ∃ wc, w1.drew = wc := ⟨_, rfl⟩
  rw [hwc] at CC ⊢
  clear hwc
  skip
  refine sy 0 3 rfl rfl ?_ (hS := (DX.out _ CC.out))
  try simp only [Act.put, sA, s0, s1]
  refine sy 1 4 rfl rfl ?_ (hS := (DX.out _ CC.out)) (hy := by (intro w hSw; (try dsimp only at hSw); obtain ⟨q0, q1, q2, q3, q4, q5⟩ := hSw; go_simp; try with_reducible rfl))
  try simp only [Act.put, sA, s0, s1]
  refine sy 2 5 rfl rfl ?_ (hS := (DX.out _ CC.out))
  try simp only [Act.put, sA, s0, s1]
  refine sy 3 6 rfl rfl ?_ (hS := (DX.out _ CC.out)) (hy := by (intro w hSw; (try dsimp only at hSw); obtain ⟨q0, q1, q2, q3, q4, q5⟩ := hSw; go_simp; try with_reducible rfl))
  try simp only [Act.put, sA, s0, s1]
  refine sy 5 8 rfl rfl ?_ (hS := (DX.out _ CC.out))
  try simp only [Act.put, sA, s0, s1]
  refine sy 6 9 rfl rfl ?_ (hS := (DX.out _ CC.out)) (hy := by (intro w hSw; (try dsimp only at hSw); obtain ⟨q0, q1, q2, q3, q4, q5⟩ := hSw; go_simp; try with_reducible rfl))
  try simp only [Act.put, sA, s0, s1]
  refine sy 8 11 rfl rfl ?_ (hS := (DX.out _ CC.out))
  try simp only [Act.put, sA, s0, s1]
  refine sy 9 12 rfl rfl ?_ (hS := (DX.out _ CC.out)) (hy := by (intro w hSw; (try dsimp only at hSw); obtain ⟨q0, q1, q2, q3, q4, q5⟩ := hSw; go_simp; try with_reducible rfl))
  try simp only [Act.put, sA, s0, s1]
  refine wpAnyH_ready (rs := [4]) (by kernel_rfl) (by simp) ?_
  refine AllReadyH.cons rfl (fun K hK => ?_) AllReadyH.nil
  replace hK := Lib.hid hK
  go_simp
  refine (copyeff_any wc x.k x.m x.A x.l x.c e.b (HX.out.A.chg CC.out (by simp)) (by rw [HX.out.l]; exact HS.out.1)).mono ?_
  rintro r wd ⟨A3, c3, rfl, h3⟩
  have O3 := Lib.hid h3.1.reads
  have N3 : Hid (∀ a, A3 = some a → g1 < a.block) := Lib.hid (fun a ha => by have := h3.2.1 a ha; have := lt_of_heap (CC.out.at_ B1.out (by simp)); omega)
  replace CC := Lib.hid (CC.out.trans h3.2.2)
  clear h3
  refine hK.out _ _ (DX.out _ CC.out) (fun hHeld => ?_)
  clear hK K
  try simp only [Act.put, sA, s0, s1]
  refine wpAnyH_ready (rs := [7]) (by kernel_rfl) (by simp) ?_
  refine AllReadyH.cons rfl (fun K hK => ?_) AllReadyH.nil
  replace hK := Lib.hid hK
  go_simp
  refine (copyspan_any wd x.B x.bl x.bc e.q (HX.out.B.chg CC.out (by simp)) (by rw [HX.out.bl]; have := HS.out.2; omega)).mono ?_
  rintro r we ⟨A5, c5, rfl, ho, hnw, hc⟩
  have O5 := Lib.hid ho.reads
  have N5 : Hid (∀ a, A5 = some a → g1 < a.block) := Lib.hid (fun a ha => by have := hnw a ha; have := lt_of_heap (CC.out.at_ B1.out (by simp)); omega)
  replace O3 := Lib.hid (O3.out.chg hc (by simp))
  replace CC := Lib.hid (CC.out.trans hc)
  clear ho hnw hc
  refine hK.out _ _ (DX.out _ CC.out) (fun hHeld => ?_)
  clear hK K
  try simp only [Act.put, sA, s0, s1]
  refine sy 10 13 rfl rfl ?_ (hS := (DX.out _ CC.out))
  try simp only [Act.put, sA, s0, s1]
  refine wpAnyH_ready (rs := [11]) (by kernel_rfl) (by simp) ?_
  refine AllReadyH.cons rfl (fun K hK => ?_) AllReadyH.nil
  replace hK := Lib.hid hK
  have BB := Lib.hid (CC.out.at_ B1.out (by simp))
  have t0 := cell_of BB.out 0
  have t1 := cell_of BB.out 1
  have t2 := cell_of BB.out 2
  have t3 := cell_of BB.out 3
  have t4 := cell_of BB.out 4
  have t5 := cell_of BB.out 5
  have ft0 := free_of BB.out 0
  have ft1 := free_of BB.out 1
  have ft2 := free_of BB.out 2
  have ft3 := free_of BB.out 3
  have ft4 := free_of BB.out 4
  have ft5 := free_of BB.out 5
  simp only [List.getElem?_toArray, List.getElem?_cons_succ, List.getElem?_cons_zero] at t0 t1 t2 t3 t4 t5
  go_simp
  clear t0 t1 t2 t3 t4 t5 ft0 ft1 ft2 ft3 ft4 ft5
  obtain ⟨p0, p1, p2⟩ := setI6 (.string x.p) (.int .i64 x.k) (.int .i64 x.m) (.slice A3 x.l c3) (.slice A5 x.bl c5) (.int .i64 x.t) BB.out
  generalize ((((((we.setCell ⟨g1, 0, none⟩ (.string x.p)).setCell ⟨g1, 1, none⟩ (.int .i64 x.k)).setCell ⟨g1, 2, none⟩ (.int .i64 x.m)).setCell ⟨g1, 3, none⟩ (.slice A3 x.l c3)).setCell ⟨g1, 4, none⟩ (.slice A5 x.bl c5)).setCell ⟨g1, 5, none⟩ (.int .i64 x.t)) = wz at *
  have BZ := Lib.hid p0
  have B0Z := Lib.hid (p1 g0 _ n10 (CC.out.at_ B0.out (by simp)))
  have KZ := Lib.hid p2
  clear p0 p1 p2
  refine hK.out _ _ ⟨cell_of B0Z.out 0, cell_of B0Z.out 1, cell_of B0Z.out 2, cell_of B0Z.out 3, cell_of B0Z.out 4, cell_of B0Z.out 5⟩ (fun hHeld => ?_)
  clear hK K
  try simp only [Act.put, sA, s0, s1]
  refine wpAnyH_done (by kernel_rfl) ?_ _
  clear hHeld
  go_wp2
  have t0 := cell_of BZ.out 0
  have t1 := cell_of BZ.out 1
  have t2 := cell_of BZ.out 2
  have t3 := cell_of BZ.out 3
  have t4 := cell_of BZ.out 4
  have t5 := cell_of BZ.out 5
  simp only [List.getElem?_toArray, List.getElem?_cons_succ, List.getElem?_cons_zero] at t0 t1 t2 t3 t4 t5
  refine bodyPost_ret (v := .agg #[.string x.p, .int .i64 x.k, .int .i64 x.m, .slice A3 x.l c3, .slice A5 x.bl c5, .int .i64 x.t]) (by simp [results, Tryz.results6, go_sem, t0, t1, t2, t3, t4, t5]) rfl ?_
  exact ⟨⟨x.p, x.k, x.m, A3, x.l, c3, A5, x.bl, c5, x.t⟩, rfl, ⟨HX.out.p, HX.out.k, HX.out.m, HX.out.l, HX.out.bl, (by have q := O3.out.chg KZ.out (fun a ha => by have := N3.out a ha; simp; omega); rw [← HX.out.l] at q; exact q), (by have q := O5.out.chg KZ.out (fun a ha => by have := N5.out a ha; simp; omega); rw [← HX.out.bl] at q; exact q), HX.out.t⟩, (C.out.trans CC.out).trans' KZ.out (fun i hi => .inr (by have := Z.out; simp at hi; omega))⟩
end
section
open Go.RowKit
set_option linter.unusedSimpArgs false

theorem Us.set {w w1 : World} {v : Nat} {A : Option Addr} {c : Nat} {xs : List UInt8} {p : Nat} {fe fa : Int} (h : Us w w1 v A c xs p fe fa) {s : Nat} (j : Nat) (u : Value) (hs : w.heap.size ≤ s) (hne : ¬ s = v) : Us w (w1.setCell ⟨s, j, none⟩ u) v A c xs p fe fa := by
  refine ⟨h.1.chg ((Chg.refl [s] w1).setCell (.inl (by simp)) _) (by simp; exact fun e => hne e.symm) ?_, h.2.1, h.chg.setCell (.inr hs) _, h.2.2.2⟩
  rcases h.2.2.2.1.old with hh | hh
  · exact .inl hh
  · exact .inr fun a e => by have := hh a e; simp; omega

set_option maxHeartbeats 4000000 in
theorem fread_any (w : World) (A : Option Addr) (n c : Nat) (xs : List UInt8) (h : Bs w A n xs) (hn : n ≤ 140737488351232) (hn1 : n ≤ c) (hn2 : c ≤ 9223372036854775807) :
    Calls Tryz.prog 54 #[.slice A n c] w (ReadEPost w (readE xs)) := by
  have hl := h.len
  subst hl
  obtain ⟨w0, hw0⟩ : ∃ w0 : World, w0 = (w.alloc (.cells #[.int .i64 0, .int .i64 0, .slice none 0 0] 24)).alloc (.cells #[.int .i64 0, .int .i64 0] 36) := ⟨_, rfl⟩
  have c0 : Chg [] w w0 := hw0 ▸ ((Chg.refl [] w).alloc _).alloc _
  have b0 : w0.heap[w.heap.size]? = some (.cells #[.int .i64 0, .int .i64 0, .slice none 0 0] 24 (0, 0)) := hw0 ▸ ((Chg.refl [] _).alloc _).at_ (heap_alloc_new w _) (by simp)
  have b1 : w0.heap[w.heap.size + 1]? = some (.cells #[.int .i64 0, .int .i64 0] 36 (0, 0)) := hw0 ▸ heap_alloc_two w _ _
  have g0 := lt_of_heap b0
  have g1 := lt_of_heap b1
  have hp0 : ∀ w' j v, Chg [] w w' → Chg [] w (w'.setCell ⟨w.heap.size, j, none⟩ v) := fun _ _ _ h => h.setCell (.inr (Nat.le_refl _)) _
  have hp1 : ∀ w' j v, Chg [] w w' → Chg [] w (w'.setCell ⟨w.heap.size + 1, j, none⟩ v) := fun _ _ _ h => h.setCell (.inr (Nat.le_succ _)) _
  have HP0 := Lib.hid hp0
  have HP1 := Lib.hid hp1
  have hb0 : ∀ (A : Option Addr) c ys w', OwnB w' A c ys → (∀ a, A = some a → w0.heap.size ≤ a.block) → Chg [] w w' → Fresh w w' A c ys := fun A c ys w' ho h hc => ⟨ho, fun a e => by have := h a e; omega, hc⟩
  have HB0 := Lib.hid hb0
  clear hp0 hp1 hb0
  have hs2 : ¬ w.heap.size = w.heap.size + 1 := by omega
  have H := Lib.hid (h.chg c0 (by simp))
  have W0 := Lib.hid hw0
  have C0 := Lib.hid c0
  have B0 := Lib.hid b0
  have B1 := Lib.hid b1
  clear hw0 c0 b0 b1 h
  have hchk := fun w1 A c => fcheck_any w1 (eN1 xs).1 (eN2 xs).1 A (eR3 xs).1.length c (by have := rRaw_le (xs := xs) (fe := (eN2 xs).2.2.1) (fa := (eN2 xs).2.2.2) (most := 1000) (p := (eN2 xs).2.1) (by unfold eN2; exact rNum_le (by unfold eN1; exact rNum_le (by omega))); unfold eR3; omega)
  have HCk := Lib.hid hchk
  have hr : readE xs = readE xs := rfl
  conv at hr => rhs; unfold readE
  have hz := @eF_zero xs
  have HZ := Lib.hid hz
  have HR := Lib.hid hr
  generalize readE xs = RR at *
  clear hchk hz hr
  go_enter Tryz.func54, Tryz.ntmps54
  go_wp2_with fail
  rw [← W0.out]
  generalize w.heap.size + 1 = s1 at *
  generalize w.heap.size = s0 at *
  refine (us_open w0 w0 A c xs (Chg.refl _ _) H.out hn1 hn2 hn).mono ?_
  rintro e w1 ⟨v, rfl, h1⟩
  have K1 := Lib.hid h1
  have hv := lt_of_heap h1.1.1
  have hv1 : ¬ w1.heap.size = v := by omega
  have hv2 : ¬ v = w1.heap.size := by omega
  have hs5 : w0.heap.size ≤ w1.heap.size := h1.chg.size
  have b5 := heap_alloc_new w1 (.cells #[.int .i64 0, .int .i64 0, .slice none 0 0] 24)
  have k5 := h1.past ((Chg.refl [] w1).alloc (.cells #[.int .i64 0, .int .i64 0, .slice none 0 0] 24))
  have B5 := Lib.hid b5
  have K5 := Lib.hid k5
  clear h1 hv b5 k5 K1
  go_wp2_with fail
  generalize w1.alloc (.cells #[.int .i64 0, .int .i64 0, .slice none 0 0] 24) = w1' at *
  generalize w1.heap.size = s5 at *
  have r1 := us_num w0 w1' v A c xs 0 0 0 1 3 K5.out
  change Calls _ _ _ _ (fun r w' => r = .returned (.int .i64 (eN1 xs).1) ∧ Us w0 w' v A c xs (eN1 xs).2.1 (eN1 xs).2.2.1 (eN1 xs).2.2.2 ∧ _) at r1
  refine r1.mono ?_
  rintro e w2 ⟨rfl, h2, c2⟩
  have b5 := c2.at_ B5.out (by simpa using hv1)
  have m0 := cell_of b5 0
  have m1 := free_of b5 0
  simp only [List.getElem?_toArray, List.getElem?_cons_succ, List.getElem?_cons_zero] at m0
  have K2 := Lib.hid (h2.set (s := s5) 0 (.int .i64 (eN1 xs).1) hs5 hv1)
  have b6 := heap_setCell_same w2 s5 0 _ _ (.int .i64 (eN1 xs).1) b5
  have B6 := Lib.hid b6
  clear h2 c2 b5 b6 K5 B5 r1
  go_wp2_with fail
  generalize w2.setCell ⟨s5, 0, none⟩ (.int .i64 (eN1 xs).1) = w2' at *
  clear m0 m1
  have r1 := us_num w0 w2' v A c xs _ _ _ 0 511 K2.out
  change Calls _ _ _ _ (fun r w' => r = .returned (.int .i64 (eN2 xs).1) ∧ Us w0 w' v A c xs (eN2 xs).2.1 (eN2 xs).2.2.1 (eN2 xs).2.2.2 ∧ _) at r1
  refine r1.mono ?_
  rintro e w3 ⟨rfl, h3, c3⟩
  have b5 := c3.at_ B6.out (by simpa using hv1)
  have m0 := cell_of b5 1
  have m1 := free_of b5 1
  simp only [List.setIfInBounds_toArray, List.set_cons_zero, List.getElem?_toArray, List.getElem?_cons_succ, List.getElem?_cons_zero] at m0
  have K3 := Lib.hid (h3.set (s := s5) 1 (.int .i64 (eN2 xs).1) hs5 hv1)
  have b6 := heap_setCell_same w3 s5 1 _ _ (.int .i64 (eN2 xs).1) b5
  have B7 := Lib.hid b6
  clear h3 c3 b5 b6 K2 B6 r1
  go_wp2_with fail
  generalize w3.setCell ⟨s5, 1, none⟩ (.int .i64 (eN2 xs).1) = w3' at *
  clear m0 m1
  have r1 := us_raw w0 w3' v A c xs _ _ _ 1000 K3.out
  change Calls _ _ _ _ (fun r w' => ∃ A' c', r = .returned (.slice A' (eR3 xs).1.length c') ∧ OwnB w' A' c' (eR3 xs).1 ∧ (∀ a, A' = some a → w3'.heap.size ≤ a.block) ∧ Us w0 w' v A c xs (eR3 xs).2.1 (eR3 xs).2.2.1 (eR3 xs).2.2.2 ∧ _) at r1
  refine r1.mono ?_
  rintro e w4 ⟨A4, c4, rfl, o4, n4, h4, c4'⟩
  have hlt := lt_of_heap B7.out
  have n4' : ∀ a, A4 = some a → w0.heap.size ≤ a.block := fun a e => Nat.le_trans K3.out.chg.size (n4 a e)
  have n4s : ∀ a, A4 = some a → a.block ∉ [s5] := fun a e => by have := n4 a e; simp; omega
  have N4 := Lib.hid n4'
  have b5 := c4'.at_ B7.out (by simpa using hv1)
  have m0 := cell_of b5 2
  have m1 := free_of b5 2
  simp only [List.setIfInBounds_toArray, List.set_cons_zero, List.set_cons_succ, List.getElem?_toArray, List.getElem?_cons_succ, List.getElem?_cons_zero] at m0
  have K4 := Lib.hid (h4.set (s := s5) 2 (.slice A4 (eR3 xs).1.length c4) hs5 hv1)
  have O4 := Lib.hid (o4.chg ((Chg.refl [s5] w4).setCell (p := ⟨s5, 2, none⟩) (.inl (by simp)) (.slice A4 (eR3 xs).1.length c4)) n4s)
  have b6 := heap_setCell_same w4 s5 2 _ _ (.slice A4 (eR3 xs).1.length c4) b5
  simp only [List.setIfInBounds_toArray, List.set_cons_zero, List.set_cons_succ] at b6
  have B8 := Lib.hid b6
  clear h4 c4' b5 b6 K3 B7 r1 n4 n4' n4s o4 hlt
  go_wp2_with fail
  generalize w4.setCell ⟨s5, 2, none⟩ (.slice A4 (eR3 xs).1.length c4) = w5 at *
  clear m0 m1
  have r1 := us_end w0 w5 v A c xs _ _ _ K4.out
  change Calls _ _ _ _ (fun r w' => r = .returned (.agg #[.int .i64 (eF xs).1, .int .i64 (eF xs).2]) ∧ _) at r1
  refine r1.mono ?_
  rintro e w6 ⟨rfl, c6⟩
  have B6 := Lib.hid (c6.at_ B8.out (by simp))
  have O6 := Lib.hid (O4.out.chg c6 (by simp))
  have K6 := Lib.hid (K4.out.past c6)
  clear c6 r1 K4 O4 B8
  have t6 := K6.out.chg.size
  have d1 : ¬ w6.heap.size = s0 := by omega
  have d2 : ¬ w6.heap.size = s1 := by omega
  have d3 : ¬ s0 = w6.heap.size := by omega
  have d4 : ¬ s1 = w6.heap.size := by omega
  have d5 : ¬ s1 = s0 := by omega
  clear t6
  obtain ⟨w7, hw7⟩ : ∃ w7 : World, w7 = w6.alloc (.cells #[.int .i64 (eF xs).1, .int .i64 (eF xs).2] 36) := ⟨_, rfl⟩
  have c7 : Chg [] w6 w7 := hw7 ▸ (Chg.refl [] w6).alloc _
  have b7 : w7.heap[w6.heap.size]? = some (.cells #[.int .i64 (eF xs).1, .int .i64 (eF xs).2] 36 (0, 0)) := hw7 ▸ heap_alloc_new w6 _
  have K7 := Lib.hid (K6.out.past c7)
  have O7 := Lib.hid (O6.out.chg c7 (by simp))
  have b5 := c7.at_ B6.out (by simp)
  have W7 := Lib.hid hw7
  have q0 := K7.out.chg.at_ B0.out (by simp)
  have q1 := K7.out.chg.at_ B1.out (by simp)
  have z0 := cell_of q0 0
  have z1 := cell_of q0 1
  have z2 := cell_of q0 2
  have z3 := cell_of q1 0
  have z4 := cell_of q1 1
  have f0 := free_of q0 0
  have f1 := free_of q0 1
  have f2 := free_of q0 2
  have f3 := free_of q1 0
  have f4 := free_of q1 1
  simp only [List.getElem?_toArray, List.getElem?_cons_succ, List.getElem?_cons_zero] at z0 z1 z2 z3 z4
  clear q0 q1
  have y0 := cell_of b7 0
  have y1 := cell_of b7 1
  have x0 := cell_of b5 0
  have x1 := cell_of b5 1
  have x2 := cell_of b5 2
  simp only [List.getElem?_toArray, List.getElem?_cons_succ, List.getElem?_cons_zero] at y0 y1 x0 x1 x2
  have B5 := Lib.hid b5
  clear hw7 c7 b7 b5 K6 O6 B6
  have C7 := Lib.hid (C0.out.trans K7.out.chg)
  by_cases he : (eF xs).1 = 0
  · have hr := HR.out
    rw [if_neg (by simpa using he)] at hr
    have he2 := HZ.out he
    have he' : ((eF xs).1 != 0) = false := by simpa using he
    by_cases hf : Fine (eN1 xs).1 (eN2 xs).1 (eR3 xs).1.length
    · rw [if_pos hf] at hr
      have HR2 := Lib.hid hr
      have hc := HCk.out w7 A4 c4
      rw [chkE_fine hf] at hc
      have HC := Lib.hid hc
      have HE := Lib.hid (And.intro he he2)
      clear he he2 hf hc hr HR HCk
      go_upto_region 7 with fail
      rw [← W7.out]
      generalize w6.heap.size = s6 at *
      go_wp2_with fail
      refine HC.out.mono ?_
      rintro e w8 ⟨rfl, c8⟩
      have z0 := c8.cell z0 (by simp)
      have z1 := c8.cell z1 (by simp)
      have z2 := c8.cell z2 (by simp)
      have z3 := c8.cell z3 (by simp)
      have z4 := c8.cell z4 (by simp)
      have x0 := c8.cell x0 (by simp)
      have x1 := c8.cell x1 (by simp)
      have x2 := c8.cell x2 (by simp)
      have y0 := c8.cell y0 (by simp)
      have y1 := c8.cell y1 (by simp)
      have q0 := (K7.out.chg.trans c8).at_ B0.out (by simp)
      have q1 := (K7.out.chg.trans c8).at_ B1.out (by simp)
      have f0 := free_of q0 0
      have f1 := free_of q0 1
      have f2 := free_of q0 2
      have f3 := free_of q1 0
      have f4 := free_of q1 1
      have O8 := Lib.hid (O7.out.chg c8 (by simp))
      have C8 := Lib.hid (C7.out.trans c8)
      clear c8 q0 q1
      have e5 : ¬ s5 = s0 := by have := g0; omega
      have e6 : ¬ s5 = s1 := by have := g1; omega
      have e7 : ¬ s0 = s5 := fun e => e5 e.symm
      have e8 : ¬ s1 = s5 := fun e => e6 e.symm
      go_wp2
      go_region
      all_goals
        go_wp2
        refine bodyPost_ret (v := .tuple #[.agg #[.int .i64 (eN1 xs).1, .int .i64 (eN2 xs).1, .slice A4 (eR3 xs).1.length c4], .agg #[.int .i64 (eF xs).1, .int .i64 (eF xs).2]]) (by simp [results, Tryz.results54, go_sem, z0, z1, z2, z3, z4, hs2, d5]) rfl ?_
        rw [HR2.out]
        exact ⟨A4, c4, by rw [HE.out.1, HE.out.2], HB0.out _ _ _ _ (O8.out.chg (S := [s0, s1]) (((((((Chg.refl [s0, s1] w8).setCell (.inl (by simp)) _).setCell (.inl (by simp)) _).setCell (.inl (by simp)) _).setCell (.inl (by simp)) _).setCell (.inl (by simp)) _).drew) (bs_apart2 N4.out g0 g1)) N4.out (HP1.out _ _ _ (HP1.out _ _ _ (HP0.out _ _ _ (HP0.out _ _ _ (HP0.out _ _ _ C8.out))))).drew⟩
    · rw [if_neg hf] at hr
      have HR2 := Lib.hid hr
      have hc := HCk.out w7 A4 c4
      rw [chkE_odd hf] at hc
      have HC := Lib.hid hc
      clear he he2 hf hc hr HR HCk
      go_upto_region 7 with fail
      rw [← W7.out]
      generalize w6.heap.size = s6 at *
      go_wp2_with fail
      refine HC.out.mono ?_
      rintro e w8 ⟨rfl, c8⟩
      have z0 := c8.cell z0 (by simp)
      have z1 := c8.cell z1 (by simp)
      have z2 := c8.cell z2 (by simp)
      have z3 := c8.cell z3 (by simp)
      have z4 := c8.cell z4 (by simp)
      have q0 := (K7.out.chg.trans c8).at_ B0.out (by simp)
      have q1 := (K7.out.chg.trans c8).at_ B1.out (by simp)
      have f0 := free_of q0 0
      have f1 := free_of q0 1
      have f2 := free_of q0 2
      have f3 := free_of q1 0
      have f4 := free_of q1 1
      have C8 := Lib.hid (C7.out.trans c8)
      clear c8 q0 q1 y0 y1 x0 x1 x2
      go_wp2
      refine bodyPost_ret (v := .tuple #[.agg #[.int .i64 0, .int .i64 0, .slice none 0 0], .agg #[.int .i64 2, .int .i64 0]]) (by simp [results, Tryz.results54, go_sem, z0, z1, z2, z3, z4, hs2, d5]) rfl ?_
      rw [HR2.out]
      exact ⟨none, 0, rfl, Fresh.none_ (HP1.out _ _ _ (HP1.out _ _ _ (HP0.out _ _ _ (HP0.out _ _ _ (HP0.out _ _ _ C8.out)))))⟩
  · have hr := HR.out
    rw [if_pos he] at hr
    have HR2 := Lib.hid hr
    have he' : ((eF xs).1 != 0) = true := by simpa using he
    clear he hr HR
    go_upto_region 7 with fail
    rw [← W7.out]
    generalize w6.heap.size = s6 at *
    go_wp2
    go_region
    all_goals
      go_wp2
      refine bodyPost_ret (v := .tuple #[.agg #[.int .i64 0, .int .i64 0, .slice none 0 0], .agg #[.int .i64 (eF xs).1, .int .i64 (eF xs).2]]) (by simp [results, Tryz.results54, go_sem, z0, z1, z2, z3, z4, hs2, d5]) rfl ?_
      rw [HR2.out]
      exact ⟨none, 0, rfl, Fresh.none_ (HP1.out _ _ _ (HP1.out _ _ _ (HP0.out _ _ _ (HP0.out _ _ _ (HP0.out _ _ _ C7.out))))).drew⟩
end
section
open Go.RowKit Go.Lib
set_option linter.unusedSimpArgs false
set_option linter.unusedVariables false


theorem qfour_at {w : World} {g o n : Nat} {ys : List UInt8} (h : Bs w (some ⟨g, o, none⟩) n ys) (p n' c' : Nat) (hp : p + 4 ≤ n) (hn : 4 ≤ n') :
    Calls Tryz.prog 86 #[.slice (some ⟨g, o + p, none⟩) n' c'] w fun e w' => e = .returned (.int .i64 (numB ((ys.drop p).take 4) : Int)) ∧ Chg [] w w' := by
  have hl := h.len
  obtain ⟨g2, o2, e, k0, k1, k2, k3⟩ := h.at4 p ys[p] ys[p + 1] ys[p + 2] ys[p + 3] (List.getElem?_eq_getElem (by omega)) (List.getElem?_eq_getElem (by omega)) (List.getElem?_eq_getElem (by omega)) (List.getElem?_eq_getElem (by omega))
  cases e
  have e4 : (ys.drop p).take 4 = [ys[p], ys[p + 1], ys[p + 2], ys[p + 3]] := by
    rw [List.drop_eq_getElem_cons (by omega), List.drop_eq_getElem_cons (by omega), List.drop_eq_getElem_cons (by omega), List.drop_eq_getElem_cons (by omega)]
    rfl
  rw [e4, numB_four]
  exact qfour_cells w g (o + p) n' c' _ _ _ _ (UInt8.toNat_lt _) (UInt8.toNat_lt _) (UInt8.toNat_lt _) (UInt8.toNat_lt _) hn k0 k1 k2 k3
theorem numB_two {ys : List UInt8} {a b : UInt8} (h0 : ys[0]? = some a) (h1 : ys[1]? = some b) : numB (ys.take 2) = 256 * a.toNat + b.toNat := by
  match ys, h0, h1 with
  | x :: y :: l, h0, h1 =>
    simp at h0 h1
    subst h0 h1
    simp [numB]
    omega

theorem qread_short (w : World) (A : Option Addr) (n c : Nat) (ys : List UInt8) (h : Bs w A n ys) (h2 : ys.length < 2) :
    Calls Tryz.prog 55 #[.slice A n c] w fun e w' => ∃ A' c', e = .returned (.tuple #[.slice A' (readS ys).1.length c', .agg #[.int .i64 (readS ys).2.1, .int .i64 (readS ys).2.2]]) ∧ OwnK spanTy w' A' c' (readS ys).1 ∧ (∀ a, A' = some a → w.heap.size ≤ a.block) ∧ Chg [] w w' := by
  rw [readS_short h2]
  have hl := h.len
  subst hl
  have h3 : (ys.length : Int) < 2 := by omega
  clear h h2
  go_enter Tryz.func55, Tryz.ntmps55
  go_wp2
  refine bodyPost_ret (v := .tuple #[.slice none 0 0, .agg #[.int .i64 4, .int .i64 ys.length]]) (by simp [results, Tryz.results55, go_sem]) rfl ?_
  exact ⟨none, 0, rfl, OwnK.none_ _, by simp, (Chg.refl _ _).alloc _⟩

set_option maxHeartbeats 2000000 in
set_option maxRecDepth 100000 in
theorem qread_odd (w : World) (g o n c : Nat) (ys : List UInt8) (h : Bs w (some ⟨g, o, none⟩) n ys) (hn : n ≤ 140737488351232) (hc : n ≤ c) (hc2 : c ≤ 9223372036854775807) (hs : ¬ ys.length < 2) (many : Nat) (hm : many = numB (ys.take 2)) (hl : ys.length ≠ 2 + 9 * many) (V : Int) (hV : (ys.length < 2 + 9 * many ∧ V = ys.length) ∨ (2 + 9 * many < ys.length ∧ V = ((2 + 9 * many : Nat) : Int))) :
    Calls Tryz.prog 55 #[.slice (some ⟨g, o, none⟩) n c] w fun e w' => ∃ A' c', e = .returned (.tuple #[.slice A' 0 c', .agg #[.int .i64 4, .int .i64 V]]) ∧ OwnK spanTy w' A' c' [] ∧ (∀ a, A' = some a → w.heap.size ≤ a.block) ∧ Chg [] w w' := by
  have hl0 := h.len
  subst hl0
  have hx0 := List.getElem?_eq_getElem (l := ys) (i := 0) (by omega)
  have hx1 := List.getElem?_eq_getElem (l := ys) (i := 1) (by omega)
  obtain ⟨w1, hw1, c1, b1⟩ := news1 w (.cells #[.int .i64 0, .int .i64 0] 36)
  have W1 := Lib.hid hw1
  have HX := Lib.hid (h.chg c1 (by simp))
  have C1 := Lib.hid c1
  have F1 := Lib.hid b1
  have hg0 : g < w.heap.size := by
    obtain ⟨a, e, hc⟩ := h.cells 0 _ (List.getElem?_eq_getElem (by omega))
    cases e
    have := lt_of_cell hc
    rwa [block_add] at this
  have HG1 := Lib.hid (Nat.lt_of_lt_of_le hg0 c1.size)
  obtain ⟨_, e0, k0⟩ := (h.chg c1 (by simp)).cells 0 _ hx0
  cases e0
  obtain ⟨_, e1, k1⟩ := (h.chg c1 (by simp)).cells 1 _ hx1
  cases e1
  rw [add_lit] at k0 k1
  unfold bv at k0 k1
  simp only [Nat.add_zero] at k0
  have hmm := hm.trans (numB_two hx0 hx1)
  generalize ys[0] = x0 at *
  generalize ys[1] = x1 at *
  have b0l := x0.toNat_lt
  have b1l := x1.toNat_lt
  have h2 : (2 : Int) ≤ (ys.length : Int) := by omega
  have h3 : ¬ ((ys.length : Int) < 2) := by omega
  have h30 : (0 : Int) < (ys.length : Int) := by omega
  have h31 : (1 : Int) < (ys.length : Int) := by omega
  have hwb0 : IntKind.i64.wrap (x0.toNat : Int) = (x0.toNat : Int) := IntWalk.i64_in _ (by omega)
  have hwb1 : IntKind.i64.wrap (x1.toNat : Int) = (x1.toNat : Int) := IntWalk.i64_in _ (by omega)
  have hwm : IntKind.i64.wrap (256 * (x0.toNat : Int)) = 256 * (x0.toNat : Int) := IntWalk.i64_in _ (by omega)
  have hws : IntKind.i64.wrap (256 * (x0.toNat : Int) + (x1.toNat : Int)) = (many : Int) := by rw [IntWalk.i64_in _ (by omega)]; omega
  have hmk : many < 65536 := by omega
  have HM := Lib.hid hm
  clear hw1 c1 b1 h hg0 hx0 hx1 hm
  rcases hV with ⟨hv, rfl⟩ | ⟨hv, rfl⟩
  · have hlt : (ys.length : Int) < 2 + 9 * (many : Int) := by omega
    clear hv hl hmm
    go_enter Tryz.func55, Tryz.ntmps55
    go_upto_region 3 with fail
    rw [← W1.out]
    clear W1
    go_quiet (fail)
    generalize hw2 : w1.drewN _ = w2 at *
    have C2 := Lib.hid (show Chg [] w w2 by rw [← hw2]; exact C1.out.drewN _)
    have F2 := Lib.hid (show w2.heap[w.heap.size]? = some (.cells #[.int .i64 0, .int .i64 0] 36 (0, 0)) by rw [← hw2]; exact F1.out)
    clear hw2 k0 k1 hwb0 hwb1 hwm hws
    generalize hs0 : w.heap.size = s0 at *
    have HS0 := Lib.hid (Nat.le_of_eq hs0)
    clear hs0
    have hb := F2.out
    have z0 := cell_of hb 0
    have z1 := cell_of hb 1
    have f0 := free_of hb 0
    have f1 := free_of hb 1
    simp only [List.getElem?_toArray, List.getElem?_cons_succ, List.getElem?_cons_zero] at z0 z1
    have e0 := heap_setCell_same _ s0 0 _ _ (.int .i64 4) hb
    have e1 := heap_setCell_same _ s0 1 _ _ (.int .i64 ys.length) e0
    have HE : Hid (((w2.setCell ⟨s0, 0, none⟩ (.int .i64 4)).setCell ⟨s0, 1, none⟩ (.int .i64 ys.length)).heap[s0]? = some (.cells #[.int .i64 4, .int .i64 ys.length] 36 (0, 0))) := Lib.hid (by simpa using e1)
    have CW := Lib.hid (Chg.put (Chg.put C2.out HS0.out 0 (.int .i64 4)) HS0.out 1 (.int .i64 ys.length))
    clear hb e0 e1
    go_wp2
    generalize (w2.setCell ⟨s0, 0, none⟩ (.int .i64 4)).setCell ⟨s0, 1, none⟩ (.int .i64 ys.length) = W at *
    clear z0 z1 f0 f1
    have z0 := cell_of HE.out 0
    have z1 := cell_of HE.out 1
    simp only [List.getElem?_toArray, List.getElem?_cons_succ, List.getElem?_cons_zero] at z0 z1
    refine bodyPost_ret (v := .tuple #[.slice none 0 0, .agg #[.int .i64 4, .int .i64 ys.length]]) (by simp [results, Tryz.results55, go_sem, z0, z1]) rfl ?_
    exact ⟨none, 0, rfl, OwnK.none_ _, by simp, CW.out⟩
  · have hlt : ¬ (ys.length : Int) < 2 + 9 * (many : Int) := by omega
    have hlt2 : 2 + 9 * (many : Int) < (ys.length : Int) := by omega
    clear hv hl hmm
    go_enter Tryz.func55, Tryz.ntmps55
    go_upto_region 3 with fail
    rw [← W1.out]
    clear W1
    go_quiet (fail)
    generalize hw2 : w1.drewN _ = w2 at *
    have C2 := Lib.hid (show Chg [] w w2 by rw [← hw2]; exact C1.out.drewN _)
    have F2 := Lib.hid (show w2.heap[w.heap.size]? = some (.cells #[.int .i64 0, .int .i64 0] 36 (0, 0)) by rw [← hw2]; exact F1.out)
    clear hw2 k0 k1 hwb0 hwb1 hwm hws
    generalize hs0 : w.heap.size = s0 at *
    have HS0 := Lib.hid (Nat.le_of_eq hs0)
    clear hs0
    have hb := F2.out
    have z0 := cell_of hb 0
    have z1 := cell_of hb 1
    have f0 := free_of hb 0
    have f1 := free_of hb 1
    simp only [List.getElem?_toArray, List.getElem?_cons_succ, List.getElem?_cons_zero] at z0 z1
    have e0 := heap_setCell_same _ s0 0 _ _ (.int .i64 4) hb
    have e1 := heap_setCell_same _ s0 1 _ _ (.int .i64 (2 + 9 * (many : Int))) e0
    have HE : Hid (((w2.setCell ⟨s0, 0, none⟩ (.int .i64 4)).setCell ⟨s0, 1, none⟩ (.int .i64 (2 + 9 * (many : Int)))).heap[s0]? = some (.cells #[.int .i64 4, .int .i64 (2 + 9 * (many : Int))] 36 (0, 0))) := Lib.hid (by simpa using e1)
    have CW := Lib.hid (Chg.put (Chg.put C2.out HS0.out 0 (.int .i64 4)) HS0.out 1 (.int .i64 (2 + 9 * (many : Int))))
    clear hb e0 e1
    go_wp2
    generalize (w2.setCell ⟨s0, 0, none⟩ (.int .i64 4)).setCell ⟨s0, 1, none⟩ (.int .i64 (2 + 9 * (many : Int))) = W at *
    clear z0 z1 f0 f1
    have z0 := cell_of HE.out 0
    have z1 := cell_of HE.out 1
    simp only [List.getElem?_toArray, List.getElem?_cons_succ, List.getElem?_cons_zero] at z0 z1
    refine bodyPost_ret (v := .tuple #[.slice none 0 0, .agg #[.int .i64 4, .int .i64 (2 + 9 * (many : Int))]]) (by simp [results, Tryz.results55, go_sem, z0, z1]) rfl ?_
    exact ⟨none, 0, rfl, OwnK.none_ _, by simp, CW.out⟩

set_option maxHeartbeats 4000000 in
set_option maxRecDepth 100000 in
theorem qread_loop (w : World) (g o n c : Nat) (ys : List UInt8) (h : Bs w (some ⟨g, o, none⟩) n ys) (hn : n ≤ 140737488351232) (hc : n ≤ c) (hc2 : c ≤ 9223372036854775807) (many : Nat) (hm : many = numB (ys.take 2)) (hl : ys.length = 2 + 9 * many) (L : List (Int × Int × Int)) (E : Int) (hck : (chkS (spansR ys many) = 0 ∧ L = spansR ys many ∧ E = 0) ∨ (chkS (spansR ys many) = 2 ∧ L = [] ∧ E = 2)) :
    Calls Tryz.prog 55 #[.slice (some ⟨g, o, none⟩) n c] w fun e w' => ∃ A' c', e = .returned (.tuple #[.slice A' L.length c', .agg #[.int .i64 E, .int .i64 0]]) ∧ OwnK spanTy w' A' c' L ∧ (∀ a, A' = some a → w.heap.size ≤ a.block) ∧ Chg [] w w' := by
  have HCK := Lib.hid hck
  clear hck
  have hl0 := h.len
  subst hl0
  have hx0 := List.getElem?_eq_getElem (l := ys) (i := 0) (by omega)
  have hx1 := List.getElem?_eq_getElem (l := ys) (i := 1) (by omega)
  obtain ⟨w1, hw1, c1, b1⟩ := news1 w (.cells #[.int .i64 0, .int .i64 0] 36)
  have W1 := Lib.hid hw1
  have HX := Lib.hid (h.chg c1 (by simp))
  have C1 := Lib.hid c1
  have F1 := Lib.hid b1
  have hg0 : g < w.heap.size := by
    obtain ⟨a, e, hc⟩ := h.cells 0 _ (List.getElem?_eq_getElem (by omega))
    cases e
    have := lt_of_cell hc
    rwa [block_add] at this
  have HG1 := Lib.hid (Nat.lt_of_lt_of_le hg0 c1.size)
  obtain ⟨_, e0, k0⟩ := (h.chg c1 (by simp)).cells 0 _ hx0
  cases e0
  obtain ⟨_, e1, k1⟩ := (h.chg c1 (by simp)).cells 1 _ hx1
  cases e1
  rw [add_lit] at k0 k1
  unfold bv at k0 k1
  simp only [Nat.add_zero] at k0
  have hmm := hm.trans (numB_two hx0 hx1)
  generalize ys[0] = x0 at *
  generalize ys[1] = x1 at *
  have b0l := x0.toNat_lt
  have b1l := x1.toNat_lt
  have h2 : (2 : Int) ≤ (ys.length : Int) := by omega
  have h3 : ¬ ((ys.length : Int) < 2) := by omega
  have h30 : (0 : Int) < (ys.length : Int) := by omega
  have h31 : (1 : Int) < (ys.length : Int) := by omega
  have hwb0 : IntKind.i64.wrap (x0.toNat : Int) = (x0.toNat : Int) := IntWalk.i64_in _ (by omega)
  have hwb1 : IntKind.i64.wrap (x1.toNat : Int) = (x1.toNat : Int) := IntWalk.i64_in _ (by omega)
  have hwm : IntKind.i64.wrap (256 * (x0.toNat : Int)) = 256 * (x0.toNat : Int) := IntWalk.i64_in _ (by omega)
  have hws : IntKind.i64.wrap (256 * (x0.toNat : Int) + (x1.toNat : Int)) = (many : Int) := by rw [IntWalk.i64_in _ (by omega)]; omega
  have hmk : many < 65536 := by omega
  have HM := Lib.hid hm
  clear hw1 c1 b1 h hg0 hx0 hx1 hm
  have hlt : ¬ (ys.length : Int) < 2 + 9 * (many : Int) := by omega
  have hlt2 : ¬ 2 + 9 * (many : Int) < (ys.length : Int) := by omega
  have HL := Lib.hid hl
  clear hmm
  go_enter Tryz.func55, Tryz.ntmps55
  go_upto_region 3 with fail
  rw [← W1.out]
  clear W1
  go_quiet (fail)
  generalize hw2 : w1.drewN _ = w2 at *
  have HX2 := Lib.hid (show Bs w2 (some ⟨g, o, none⟩) ys.length ys by rw [← hw2]; exact HX.out.chg ((Chg.refl [] w1).drewN _) (by simp))
  have C2 := Lib.hid (show Chg [] w w2 by rw [← hw2]; exact C1.out.drewN _)
  have F2 := Lib.hid (show w2.heap[w.heap.size]? = some (.cells #[.int .i64 0, .int .i64 0] 36 (0, 0)) by rw [← hw2]; exact F1.out)
  have HG0 := Lib.hid (show g < w2.heap.size by rw [← hw2]; exact HG1.out)
  clear hw2 k0 k1 hwb0 hwb1 hwm hws HX C1 F1 HG1 hl
  generalize hs0 : w.heap.size = s0 at *
  have HS0 := Lib.hid (Nat.le_of_eq hs0)
  clear hs0
  go_wp2
  go_loopw [5, 6] (fun v5 v6 wr => ∃ (k : Nat) (B : Option Addr) (cc : Nat), k ≤ many ∧ v5 = .slice B k cc ∧ v6 = .int .i64 (k : Int) ∧ Hid (OwnK spanTy wr B cc (spansR ys k) ∧ (∀ a, B = some a → w2.heap.size ≤ a.block) ∧ Chg [] w2 wr)) (fun _ v6 _ => many - (RowKit.intOf v6).toNat)
  case atStart => exact ⟨0, none, 0, Nat.zero_le _, rfl, rfl, OwnK.none_ _, by simp, Chg.refl _ _⟩
  case round =>
    obtain ⟨k, B, cc, hk, rfl, rfl, HI⟩ := hrel
    generalize wr = w4 at *
    clear wr
    by_cases hlt3 : k < many
    · have hl := HL.out
      have hq : 2 + 9 * k < ys.length := by omega
      have ex := List.getElem?_eq_getElem hq
      have HX4 := Lib.hid (HX2.out.chg HI.out.2.2 (by simp))
      obtain ⟨ad, eA, hcell⟩ := HX4.out.cells _ _ ex
      cases eA
      rw [add_lit] at hcell
      have e1 : (ys.drop (2 + 9 * k)).take 1 = [ys[2 + 9 * k]] := by rw [List.drop_eq_getElem_cons hq]; rfl
      generalize ys[2 + 9 * k] = x at *
      have E1 := Lib.hid e1
      unfold bv at hcell
      have j1 : (0 : Int) ≤ 2 + 9 * (k : Int) := by omega
      have j2 : 2 + 9 * (k : Int) ≤ (ys.length : Int) := by omega
      have j3 : ¬ c = 2 + 9 * k := by omega
      have j4 : ¬ 2 + 9 * k = c := by omega
      have j5 : (2 + 9 * (k : Int)).toNat = 2 + 9 * k := by omega
      have j6 : 2 + 9 * k ≤ ys.length := by omega
      have hsp : spanAt ys (2 + 9 * k) = ((x.toNat : Int), (numB ((ys.drop (2 + 9 * k + 1)).take 4) : Int), (numB ((ys.drop (2 + 9 * k + 5)).take 4) : Int)) := by
        unfold spanAt
        rw [E1.out]
        simp [numB]
      have HSP := Lib.hid hsp
      have LR1 := Lib.hid (spansR_len ys k)
      have BND := Lib.hid (show (k + 1) * 400 ≤ 140737488355327 by omega)
      have HWX := Lib.hid (show IntKind.i64.wrap (x.toNat : Int) = (x.toNat : Int) from IntWalk.i64_in _ (by have := x.toNat_lt; omega))
      have hgB : g ∉ (B.map (·.block)).toList := by
        cases B with
        | none => simp
        | some a =>
          have h1 := HI.out.2.1 a rfl
          have h2 := HG0.out
          simp
          omega
      have HB := Lib.hid hgB
      have n1p : 9 ≤ ys.length - (2 + 9 * k) := by omega
      have c1p : 9 ≤ c - (2 + 9 * k) := by omega
      have hk4 : ∀ w', Chg (B.map (·.block)).toList w4 w' → w'.cell? ⟨g, o + (2 + 9 * k), none⟩ = some (.int .u8 (x.toNat : Int)) := fun w' h => h.cell hcell (by exact HB.out)
      have HK := Lib.hid hk4
      have Q1 := Lib.hid (fun (w' : World) (hc : Chg [] w4 w') (n' c' : Nat) (hn' : 4 ≤ n') => qfour_at (HX4.out.chg hc (by simp)) (2 + 9 * k + 1) n' c' (by omega) hn')
      have Q2 := Lib.hid (fun (w' : World) (hc : Chg [] w4 w') (n' c' : Nat) (hn' : 4 ≤ n') => qfour_at (HX4.out.chg hc (by simp)) (2 + 9 * k + 5) n' c' (by omega) hn')
      clear ex e1 hq hsp hk4 hcell hgB hl
      generalize (ys.drop (2 + 9 * k + 1)).take 4 = l1 at *
      generalize (ys.drop (2 + 9 * k + 5)).take 4 = l2 at *
      go_upto_region 13 with fail
      clear j1 j2 j3 j4 j5 j6
      generalize hn1 : ys.length - (2 + 9 * k) = n1 at *
      generalize hc1 : c - (2 + 9 * k) = cc1 at *
      clear hn1 hc1
      have j0 : (0 : Int) < (n1 : Int) := by omega
      have j1 : (1 : Int) ≤ (n1 : Int) := by omega
      have j2 : (5 : Int) ≤ (n1 : Int) := by omega
      have j3 : ¬ cc1 = 1 := by omega
      have j4 : ¬ 1 = cc1 := by omega
      have j5 : ¬ cc1 = 5 := by omega
      have j6 : ¬ 5 = cc1 := by omega
      have j0n : 0 < n1 := by omega
      have j7 : 1 ≤ n1 := by omega
      have j8 : 5 ≤ n1 := by omega
      have n4 : 4 ≤ n1 - 1 := by omega
      have n5 : 4 ≤ n1 - 5 := by omega
      refine wp_region_held_drew (S := fun w' => Chg (B.map (·.block)).toList w4 w') (by kernel_rfl) (Chg.refl _ w4).drew (fun hHeld => ?_)
      have C4 := Lib.hid ((Chg.refl [] w4).drew)
      clear hHeld
      refine step_yes 0 53 ?_ (C4.out.mono (by simp)) rfl rfl (by kernel_rfl) (by kernel_rfl) (by kernel_rfl) (fun _ _ _ h => h) (by rfl) ?_ ?_
      rotate_left
      · (intro w hSw; (try dsimp only at hSw); go_simp; try with_reducible rfl)
      try simp only [Act.put, List.setIfInBounds_toArray, List.set_cons_zero, List.set_cons_succ]
      refine step_yes 1 54 ?_ (C4.out.mono (by simp)) rfl rfl (by kernel_rfl) (by kernel_rfl) (by kernel_rfl) (fun _ _ _ h => h) (by rfl) ?_ ?_
      rotate_left
      · (intro w hSw; (try dsimp only at hSw); go_simp; try with_reducible rfl)
      try simp only [Act.put, List.setIfInBounds_toArray, List.set_cons_zero, List.set_cons_succ]
      refine step_yes 2 55 ?_ (C4.out.mono (by simp)) rfl rfl (by kernel_rfl) (by kernel_rfl) (by kernel_rfl) (fun _ _ _ h => h) (by rfl) ?_ ?_
      rotate_left
      · (intro w hSw; (try dsimp only at hSw); go_simp; try with_reducible rfl)
      try simp only [Act.put, List.setIfInBounds_toArray, List.set_cons_zero, List.set_cons_succ]
      refine step_yes 3 56 ?_ (C4.out.mono (by simp)) rfl rfl (by kernel_rfl) (by kernel_rfl) (by kernel_rfl) (fun _ _ _ h => h) (by rfl) ?_ ?_
      rotate_left
      · (intro w hSw; (try dsimp only at hSw); have hq0 := HK.out _ hSw; go_simp; try with_reducible rfl)
      try simp only [Act.put, List.setIfInBounds_toArray, List.set_cons_zero, List.set_cons_succ]
      refine step_yes 4 57 ?_ (C4.out.mono (by simp)) rfl rfl (by kernel_rfl) (by kernel_rfl) (by kernel_rfl) (fun _ _ _ h => h) (by rfl) ?_ ?_
      rotate_left
      · (intro w hSw; (try dsimp only at hSw); go_simp; try with_reducible rfl)
      try simp only [Act.put, List.setIfInBounds_toArray, List.set_cons_zero, List.set_cons_succ]
      refine step_yes 5 58 ?_ (C4.out.mono (by simp)) rfl rfl (by kernel_rfl) (by kernel_rfl) (by kernel_rfl) (fun _ _ _ h => h) (by rfl) ?_ ?_
      rotate_left
      · (intro w hSw; (try dsimp only at hSw); go_simp; try with_reducible rfl)
      try simp only [Act.put, List.setIfInBounds_toArray, List.set_cons_zero, List.set_cons_succ]
      refine step_yes 6 59 ?_ (C4.out.mono (by simp)) rfl rfl (by kernel_rfl) (by kernel_rfl) (by kernel_rfl) (fun _ _ _ h => h) (by rfl) ?_ ?_
      rotate_left
      · (intro w hSw; (try dsimp only at hSw); go_simp; try with_reducible rfl)
      try simp only [Act.put, List.setIfInBounds_toArray, List.set_cons_zero, List.set_cons_succ]
      refine step_yes 8 61 ?_ (C4.out.mono (by simp)) rfl rfl (by kernel_rfl) (by kernel_rfl) (by kernel_rfl) (fun _ _ _ h => h) (by rfl) ?_ ?_
      rotate_left
      · (intro w hSw; (try dsimp only at hSw); go_simp; try with_reducible rfl)
      try simp only [Act.put, List.setIfInBounds_toArray, List.set_cons_zero, List.set_cons_succ]
      refine step_yes 9 62 ?_ (C4.out.mono (by simp)) rfl rfl (by kernel_rfl) (by kernel_rfl) (by kernel_rfl) (fun _ _ _ h => h) (by rfl) ?_ ?_
      rotate_left
      · (intro w hSw; (try dsimp only at hSw); go_simp; try with_reducible rfl)
      try simp only [Act.put, List.setIfInBounds_toArray, List.set_cons_zero, List.set_cons_succ]
      refine wpAnyH_ready (rs := [7]) (by kernel_rfl) (by simp) ?_
      refine AllReadyH.cons rfl (fun K hK => ?_) AllReadyH.nil
      replace hK := Lib.hid hK
      go_simp
      refine (Q1.out _ C4.out _ _ n4).mono ?_
      rintro e w9 ⟨rfl, hc⟩
      have C9 := Lib.hid (C4.out.trans hc)
      clear hc C4
      refine hK.out _ _ (C9.out.mono (by simp)) (fun hHeld => ?_)
      clear hK K
      try simp only [Act.put, List.setIfInBounds_toArray, List.set_cons_zero, List.set_cons_succ]
      clear hHeld
      refine wpAnyH_ready (rs := [10]) (by kernel_rfl) (by simp) ?_
      refine AllReadyH.cons rfl (fun K hK => ?_) AllReadyH.nil
      replace hK := Lib.hid hK
      go_simp
      refine (Q2.out _ C9.out _ _ n5).mono ?_
      rintro e v9 ⟨rfl, hc⟩
      have C8 := Lib.hid (C9.out.trans hc)
      clear hc C9
      refine hK.out _ _ (C8.out.mono (by simp)) (fun hHeld => ?_)
      clear hK K
      try simp only [Act.put, List.setIfInBounds_toArray, List.set_cons_zero, List.set_cons_succ]
      clear hHeld
      refine step_yes 11 64 ?_ (C8.out.mono (by simp)) rfl rfl (by kernel_rfl) (by kernel_rfl) (by kernel_rfl) (fun _ _ _ h => h) (by rfl) ?_ ?_
      rotate_left
      · (intro w hSw; (try dsimp only at hSw); go_simp; try with_reducible rfl)
      try simp only [Act.put, List.setIfInBounds_toArray, List.set_cons_zero, List.set_cons_succ]
      refine wpAnyH_ready (rs := [12]) (by kernel_rfl) (by simp) ?_
      refine AllReadyH.cons rfl (fun K hK => ?_) AllReadyH.nil
      replace hK := Lib.hid hK
      go_simp
      obtain ⟨w5, hw5, c5, b5⟩ := news1 v9 (.cells #[.int .i64 (x.toNat : Int), .int .i64 (numB l1 : Int), .int .i64 (numB l2 : Int)] 88)
      simp only [HWX.out]
      rw [← hw5]
      have C5 := Lib.hid (C8.out.trans c5)
      refine hK.out _ _ (C5.out.mono (by simp)) (fun hHeld => ?_)
      clear hK K hHeld
      try simp only [Act.put, List.setIfInBounds_toArray, List.set_cons_zero, List.set_cons_succ]
      have R5 := Lib.hid (OwnK.of (R := spanTy) (c := 1) (full := [((x.toNat : Int), (numB l1 : Int), (numB l2 : Int))]) (xs := [((x.toNat : Int), (numB l1 : Int), (numB l2 : Int))]) b5 (Nat.le_refl _) (by decide) rfl rfl).reads
      have O5 := Lib.hid (HI.out.1.chg C5.out (by simp))
      clear hw5 c5 b5 C8
      refine wpAnyH_ready (rs := [13]) (by kernel_rfl) (by simp) ?_
      refine AllReadyH.cons rfl (fun K hK => ?_) AllReadyH.nil
      replace hK := Lib.hid hK
      refine step_appK (R := spanTy) rfl (.tmp 53) (.tmp 65) rfl rfl O5.out LR1.out rfl R5.out BND.out ?_
      intro A2 c2 w7 u2 d2 e2
      have C7 := Lib.hid ((C5.out.mono (S' := (B.map (·.block)).toList) (by simp)).grown d2 (fun k hk => .inl (by simp [hk])))
      have AO := app_own (w := w2) HI.out.2.1 (HI.out.2.2.trans C5.out) d2 e2
      have U2 := Lib.hid u2
      have AO2 := Lib.hid AO
      clear u2 d2 e2 AO
      refine hK.out _ _ C7.out (fun hHeld => ?_)
      clear hK K hHeld
      try simp only [Act.put, List.setIfInBounds_toArray, List.set_cons_zero, List.set_cons_succ]
      refine step_yes 14 5 ?_ C7.out rfl rfl (by kernel_rfl) (by kernel_rfl) (by kernel_rfl) (fun _ _ _ h => h) (by rfl) ?_ ?_
      rotate_left
      · (intro w hSw; (try dsimp only at hSw); go_simp; try with_reducible rfl)
      try simp only [Act.put, List.setIfInBounds_toArray, List.set_cons_zero, List.set_cons_succ]
      refine wpAnyH_done (by kernel_rfl) ?_ _
      go_wp2
      go_round
      case rel => exact ⟨k + 1, A2, c2, by omega, by congr 1, by go_num, by rw [spansR_succ, HSP.out]; exact U2.out, AO2.out.1, AO2.out.2⟩
      case measure => simp [RowKit.intOf]; omega
    · obtain rfl : k = many := by omega
      have hw2l := HI.out.1.reads
      go_wp2_with fail
      refine (qacheck_any _ B _ cc (spansR ys k) (by have := hw2l; rwa [spansR_len] at this) (by omega)).mono ?_
      rintro e w5 ⟨rfl, hc5⟩
      rcases HCK.out with ⟨hk0, hL, hE⟩ | ⟨hk0, hL, hE⟩
      · rw [hk0]
        clear HCK hw2l hk0
        subst hL hE
        have hb := hc5.at_ (HI.out.2.2.at_ F2.out (by simp)) (by simp)
        have z0 := cell_of hb 0
        have z1 := cell_of hb 1
        have f0 := free_of hb 0
        have f1 := free_of hb 1
        simp only [List.getElem?_toArray, List.getElem?_cons_succ, List.getElem?_cons_zero] at z0 z1
        have e0 := heap_setCell_same _ s0 0 _ _ (.int .i64 0) hb
        have e1 := heap_setCell_same _ s0 1 _ _ (.int .i64 0) e0
        have HE : Hid (((w5.setCell ⟨s0, 0, none⟩ (.int .i64 0)).setCell ⟨s0, 1, none⟩ (.int .i64 0)).heap[s0]? = some (.cells #[.int .i64 0, .int .i64 0] 36 (0, 0))) := Lib.hid (by simpa using e1)
        have CW := Lib.hid (Chg.put (Chg.put (C2.out.trans (HI.out.2.2.trans hc5)) HS0.out 0 (.int .i64 0)) HS0.out 1 (.int .i64 0))
        have CS := ((Chg.refl [s0] w5).setCell (p := ⟨s0, 0, none⟩) (.inl (by simp)) (.int .i64 0)).setCell (p := ⟨s0, 1, none⟩) (.inl (by simp)) (.int .i64 0)
        have OF := Lib.hid ((HI.out.1.chg hc5 (by simp)).chg CS (fun a ha => by
          have h1 := HI.out.2.1 a ha
          have h2 := lt_of_heap F2.out
          simp
          omega))
        have NF := Lib.hid (fun a (ha : B = some a) => Nat.le_trans C2.out.size (HI.out.2.1 a ha))
        have LF := Lib.hid (spansR_len ys k)
        clear hb e0 e1 CS hc5
        go_wp2
        generalize (w5.setCell ⟨s0, 0, none⟩ (.int .i64 0)).setCell ⟨s0, 1, none⟩ (.int .i64 0) = W at *
        clear z0 z1 f0 f1
        have z0 := cell_of HE.out 0
        have z1 := cell_of HE.out 1
        simp only [List.getElem?_toArray, List.getElem?_cons_succ, List.getElem?_cons_zero] at z0 z1
        refine bodyPost_ret (v := .tuple #[.slice B k cc, .agg #[.int .i64 0, .int .i64 0]]) (by simp [results, Tryz.results55, go_sem, z0, z1]) rfl ?_
        exact ⟨B, cc, by rw [LF.out], OF.out, NF.out, CW.out⟩
      · rw [hk0]
        clear HCK hw2l hk0
        subst hL hE
        have hb := hc5.at_ (HI.out.2.2.at_ F2.out (by simp)) (by simp)
        have z0 := cell_of hb 0
        have z1 := cell_of hb 1
        have f0 := free_of hb 0
        have f1 := free_of hb 1
        simp only [List.getElem?_toArray, List.getElem?_cons_succ, List.getElem?_cons_zero] at z0 z1
        have e0 := heap_setCell_same _ s0 0 _ _ (.int .i64 2) hb
        have e1 := heap_setCell_same _ s0 1 _ _ (.int .i64 0) e0
        have HE : Hid (((w5.setCell ⟨s0, 0, none⟩ (.int .i64 2)).setCell ⟨s0, 1, none⟩ (.int .i64 0)).heap[s0]? = some (.cells #[.int .i64 2, .int .i64 0] 36 (0, 0))) := Lib.hid (by simpa using e1)
        have CW := Lib.hid (Chg.put (Chg.put (C2.out.trans (HI.out.2.2.trans hc5)) HS0.out 0 (.int .i64 2)) HS0.out 1 (.int .i64 0))
        have CS := ((Chg.refl [s0] w5).setCell (p := ⟨s0, 0, none⟩) (.inl (by simp)) (.int .i64 2)).setCell (p := ⟨s0, 1, none⟩) (.inl (by simp)) (.int .i64 0)
        clear hb e0 e1 CS hc5
        go_wp2
        generalize (w5.setCell ⟨s0, 0, none⟩ (.int .i64 2)).setCell ⟨s0, 1, none⟩ (.int .i64 0) = W at *
        clear z0 z1 f0 f1
        have z0 := cell_of HE.out 0
        have z1 := cell_of HE.out 1
        simp only [List.getElem?_toArray, List.getElem?_cons_succ, List.getElem?_cons_zero] at z0 z1
        refine bodyPost_ret (v := .tuple #[.slice none 0 0, .agg #[.int .i64 2, .int .i64 0]]) (by simp [results, Tryz.results55, go_sem, z0, z1]) rfl ?_
        exact ⟨none, 0, rfl, OwnK.none_ _, by simp, CW.out⟩

theorem qread_any (w : World) (A : Option Addr) (n c : Nat) (ys : List UInt8) (h : Bs w A n ys) (hn : n ≤ 140737488351232) (hc : n ≤ c) (hc2 : c ≤ 9223372036854775807) :
    Calls Tryz.prog 55 #[.slice A n c] w fun e w' => ∃ A' c', e = .returned (.tuple #[.slice A' (readS ys).1.length c', .agg #[.int .i64 (readS ys).2.1, .int .i64 (readS ys).2.2]]) ∧ OwnK spanTy w' A' c' (readS ys).1 ∧ (∀ a, A' = some a → w.heap.size ≤ a.block) ∧ Chg [] w w' := by
  have hl := h.len
  by_cases h2 : ys.length < 2
  · exact qread_short w A n c ys h h2
  obtain ⟨g, o, rfl⟩ := h.base (by omega)
  by_cases h3 : ys.length = 2 + 9 * numB (ys.take 2)
  · rcases readS_fine h2 h3 with ⟨hk, e⟩ | ⟨hk, e⟩ <;> rw [e]
    · exact qread_loop w g o n c ys h hn hc hc2 _ rfl h3 _ _ (.inl ⟨hk, rfl, rfl⟩)
    · exact qread_loop w g o n c ys h hn hc hc2 _ rfl h3 _ _ (.inr ⟨hk, rfl, rfl⟩)
  · rw [readS_odd h2 h3]
    refine qread_odd w g o n c ys h hn hc hc2 h2 _ rfl h3 _ ?_
    by_cases h4 : ys.length < 2 + 9 * numB (ys.take 2)
    · exact .inl ⟨h4, if_pos h4⟩
    · exact .inr ⟨by omega, if_neg h4⟩
end
end Go.Proofs.YtcnbgdplkobenaaGreatDoor
