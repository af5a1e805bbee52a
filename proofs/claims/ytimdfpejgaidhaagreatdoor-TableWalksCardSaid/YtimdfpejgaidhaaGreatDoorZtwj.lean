/- past: Count, Last. event.Check. The kit's CopyEffect. The kit's CopyEvent. A row of nil has no elements. slices.Clone of spans. fresh.Effect, fresh.Event. fresh.Entry. table.Get. The document's Get. SameTexts; the document's join, Split. The document's Split, Parent, Base. -/
import Derived.Test.YtimdfpejgaidhaaGreatDoorZtwi
import Derived.Test.YtimdfpejgaidhaaGreatDoorZtwd
import Derived.Test.YtimdfpejgaidhaaGreatDoorZtwb
import Derived.Test.YtimdfpejgaidhaaGreatDoorZtwc
import Derived.Deep.Cut
import Derived.Deep.RegionHeld3
import Derived.Test.YtimdfpejgaidhaaGreatDoorZtwa
import Derived.BigQuiet
namespace Go.Proofs.YtimdfpejgaidhaaGreatDoor
section
open Go.RowKit Go.Lib
set_option linter.unusedSimpArgs false
set_option linter.unusedVariables false


set_option maxHeartbeats 4000000 in
theorem set3_2 {w w0 : World} {z : Nat} {s0 s1 : Nat} {a0 a1 a2 : Value} {T : TypeId} {o : Obj} (v2 : Value) (q0 : w.heap[s0]? = some (.cells #[a0, a1, a2] T (0, 0))) (q1 : w.heap[s1]? = some o) (h : s0 ≠ s1) (hz : z ≤ s0) (C : Chg [] w0 w) (hw0 : w0.heap.size = z) :
    (w.setCell ⟨s0, 2, none⟩ v2).heap[s0]? = some (.cells #[a0, a1, v2] T (0, 0)) ∧ (w.setCell ⟨s0, 2, none⟩ v2).heap[s1]? = some o ∧ Chg [] w0 (w.setCell ⟨s0, 2, none⟩ v2) := by
  have p0 := heap_setCell_same _ s0 2 _ _ v2 q0
  refine ⟨p0, ?_, ?_⟩
  · rw [Below.heap_setCell _ _ _ _ (by simp; exact fun e => h e.symm)]
    exact q1
  · exact (C.put (by omega) 2 v2)
set_option maxHeartbeats 4000000 in
theorem set3_all {w w0 : World} {z : Nat} {s0 s1 : Nat} {a0 a1 a2 : Value} {T : TypeId} {o : Obj} (v0 v1 v2 : Value) (q0 : w.heap[s0]? = some (.cells #[a0, a1, a2] T (0, 0))) (q1 : w.heap[s1]? = some o) (h : s0 ≠ s1) (hz : z ≤ s0) (C : Chg [] w0 w) (hw0 : w0.heap.size = z) :
    (((w.setCell ⟨s0, 0, none⟩ v0).setCell ⟨s0, 1, none⟩ v1).setCell ⟨s0, 2, none⟩ v2).heap[s0]? = some (.cells #[v0, v1, v2] T (0, 0)) ∧ (((w.setCell ⟨s0, 0, none⟩ v0).setCell ⟨s0, 1, none⟩ v1).setCell ⟨s0, 2, none⟩ v2).heap[s1]? = some o ∧ Chg [] w0 (((w.setCell ⟨s0, 0, none⟩ v0).setCell ⟨s0, 1, none⟩ v1).setCell ⟨s0, 2, none⟩ v2) := by
  have p0 := heap_setCell_same _ s0 0 _ _ v0 q0
  have p1 := heap_setCell_same _ s0 1 _ _ v1 p0
  have p2 := heap_setCell_same _ s0 2 _ _ v2 p1
  refine ⟨p2, ?_, ?_⟩
  · rw [Below.heap_setCell _ _ _ _ (by simp; exact fun e => h e.symm), Below.heap_setCell _ _ _ _ (by simp; exact fun e => h e.symm), Below.heap_setCell _ _ _ _ (by simp; exact fun e => h e.symm)]
    exact q1
  · exact (((C.put (by omega) 0 v0).put (by omega) 1 v1).put (by omega) 2 v2)
set_option maxRecDepth 100000 in
set_option maxHeartbeats 4000000 in
theorem copyeff_any (w : World) (k m : Int) (A : Option Addr) (n c : Nat) (ys : List UInt8) (h : Bs w A n ys) (hn : n ≤ 140737488351232) :
    Calls Tryz.prog 12 #[.agg #[.int .i64 k, .int .i64 m, .slice A n c]] w fun r w' => ∃ A' c', r = .returned (.agg #[.int .i64 k, .int .i64 m, .slice A' n c']) ∧ Fresh w w' A' c' ys := by
  obtain ⟨w2, hw, hc, b0, b1⟩ := news2 w (.cells #[.int .i64 k, .int .i64 m, .slice A n c] 25) (.cells #[.int .i64 0, .int .i64 0, .slice none 0 0] 25)
  have W2 := Lib.hid hw
  have H := Lib.hid (h.chg hc (by simp))
  have C := Lib.hid hc
  have HN := Lib.hid hn
  obtain ⟨g0, hg0⟩ : ∃ g, w.heap.size = g := ⟨_, rfl⟩
  obtain ⟨g1, hg1⟩ : ∃ g, w.heap.size + 1 = g := ⟨_, rfl⟩
  have SZ := Lib.hid hg0
  have S1 := Lib.hid hg1
  rw [hg0] at b0
  rw [hg1] at b1
  have B0 := Lib.hid b0
  have B1 := Lib.hid b1
  have NEg0 : Hid (g0 ≠ g1) := Lib.hid (by omega)
  have NEg1 : Hid (g1 ≠ g0) := Lib.hid (by omega)
  have LZg0 : Hid (g0 ≤ g0) := Lib.hid (Nat.le_refl _)
  have LZg1 : Hid (g0 ≤ g1) := Lib.hid (by omega)
  have L0 := Lib.hid (lt_of_heap b0)
  have L1 := Lib.hid (lt_of_heap b1)
  clear hw hc b0 b1 h hn hg0 hg1
  go_enter Tryz.func12, Tryz.ntmps12
  go_upto_region 1 with fail
  rw [← W2.out, S1.out, SZ.out]
  have z0 := cell_of B0.out 0
  have fz0 := free_of B0.out 0
  have z1 := cell_of B0.out 1
  have fz1 := free_of B0.out 1
  have z2 := cell_of B0.out 2
  have fz2 := free_of B0.out 2
  simp only [List.getElem?_toArray, List.getElem?_cons_succ, List.getElem?_cons_zero] at z0 z1 z2
  go_wp2_with fail
  refine (copy_any w2 A n c ys H.out HN.out).mono ?_
  rintro r w3 ⟨A3, c3, rfl, h3⟩
  clear z0 z1 z2 fz0 fz1 fz2
  replace B0 := Lib.hid (h3.2.2.at_ B0.out (by simp))
  replace B1 := Lib.hid (h3.2.2.at_ B1.out (by simp))
  have O3 := Lib.hid h3.1
  have N3 := Lib.hid h3.2.1
  have S2 := Lib.hid C.out.size
  replace C := Lib.hid (C.out.trans h3.2.2)
  have LT3 : Hid (∀ a, A3 = some a → a.block ≠ g0 ∧ a.block ≠ g1) := Lib.hid (fun a ha => by
    have q := N3.out a ha
    have r0 := L0.out
    have r1 := L1.out
    omega)
  clear h3
  have z0 := cell_of B0.out 0
  have fz0 := free_of B0.out 0
  have z1 := cell_of B0.out 1
  have fz1 := free_of B0.out 1
  have z2 := cell_of B0.out 2
  have fz2 := free_of B0.out 2
  simp only [List.getElem?_toArray, List.getElem?_cons_succ, List.getElem?_cons_zero] at z0 z1 z2
  go_upto_region 2 with fail
  clear z0 z1 z2 fz0 fz1 fz2
  obtain ⟨p0, p1, p2⟩ := set3_2 (.slice A3 n c3) B0.out B1.out NEg0.out LZg0.out C.out SZ.out
  generalize hW : (w3.setCell ⟨g0, 2, none⟩ (.slice A3 n c3)) = w4 at *
  replace B0 := Lib.hid p0
  replace B1 := Lib.hid p1
  have O4 := Lib.hid (O3.out.chg (S := [g0]) (hW ▸ (Chg.refl [g0] w3).put' 2 _) (fun a ha => by simp; exact (LT3.out a ha).1))
  replace C := Lib.hid p2
  clear p0 p1 p2 hW O3
  have z0 := cell_of B0.out 0
  have fz0 := free_of B0.out 0
  have z1 := cell_of B0.out 1
  have fz1 := free_of B0.out 1
  have z2 := cell_of B0.out 2
  have fz2 := free_of B0.out 2
  simp only [List.getElem?_toArray, List.getElem?_cons_succ, List.getElem?_cons_zero] at z0 z1 z2
  have y0 := cell_of B1.out 0
  have fy0 := free_of B1.out 0
  have y1 := cell_of B1.out 1
  have fy1 := free_of B1.out 1
  have y2 := cell_of B1.out 2
  have fy2 := free_of B1.out 2
  simp only [List.getElem?_toArray, List.getElem?_cons_succ, List.getElem?_cons_zero] at y0 y1 y2
  go_wp2
  clear z0 z1 z2 fz0 fz1 fz2
  clear y0 y1 y2 fy0 fy1 fy2
  obtain ⟨p0, p1, p2⟩ := set3_all (.int .i64 k) (.int .i64 m) (.slice A3 n c3) B1.out B0.out NEg1.out LZg1.out C.out SZ.out
  generalize hW : (((w4.setCell ⟨g1, 0, none⟩ (.int .i64 k)).setCell ⟨g1, 1, none⟩ (.int .i64 m)).setCell ⟨g1, 2, none⟩ (.slice A3 n c3)) = w5 at *
  have O5 := Lib.hid (O4.out.chg (S := [g1]) (hW ▸ (((Chg.refl [g1] w4).put' 0 _).put' 1 _).put' 2 _) (fun a ha => by simp; exact (LT3.out a ha).2))
  replace B1 := Lib.hid p0
  replace C := Lib.hid p2
  clear p0 p1 p2 hW O4
  have y0 := cell_of B1.out 0
  have y1 := cell_of B1.out 1
  have y2 := cell_of B1.out 2
  simp only [List.getElem?_toArray, List.getElem?_cons_succ, List.getElem?_cons_zero] at y0 y1 y2
  refine bodyPost_ret (v := .agg #[.int .i64 k, .int .i64 m, .slice A3 n c3]) (by simp [results, Tryz.results12, go_sem, y0, y1, y2]) rfl ?_
  exact ⟨A3, c3, rfl, O5.out, fun a ha => Nat.le_trans S2.out (N3.out a ha), C.out⟩
end
section
open Go.RowKit Go.Lib
set_option linter.unusedSimpArgs false
set_option linter.unusedVariables false


set_option maxRecDepth 100000 in
set_option maxHeartbeats 4000000 in
theorem freff_any (w : World) (k m : Int) (A : Option Addr) (n c : Nat) (ys : List UInt8) (h : Bs w A n ys) (hn : n ≤ 140737488351232) :
    Calls Tryz.prog 41 #[.agg #[.int .i64 k, .int .i64 m, .slice A n c]] w fun r w' => ∃ A' c', r = .returned (.agg #[.int .i64 k, .int .i64 m, .slice A' n c']) ∧ Fresh w w' A' c' ys := by
  obtain ⟨w2, hw, hc, b0, b1⟩ := news2 w (.cells #[.int .i64 k, .int .i64 m, .slice A n c] 25) (.cells #[.int .i64 0, .int .i64 0, .slice none 0 0] 25)
  have W2 := Lib.hid hw
  have H := Lib.hid (h.chg hc (by simp))
  have C := Lib.hid hc
  have HN := Lib.hid hn
  obtain ⟨g0, hg0⟩ : ∃ g, w.heap.size = g := ⟨_, rfl⟩
  obtain ⟨g1, hg1⟩ : ∃ g, w.heap.size + 1 = g := ⟨_, rfl⟩
  have SZ := Lib.hid hg0
  have S1 := Lib.hid hg1
  rw [hg0] at b0
  rw [hg1] at b1
  have B0 := Lib.hid b0
  have B1 := Lib.hid b1
  have NEg0 : Hid (g0 ≠ g1) := Lib.hid (by omega)
  have NEg1 : Hid (g1 ≠ g0) := Lib.hid (by omega)
  have LZg0 : Hid (g0 ≤ g0) := Lib.hid (Nat.le_refl _)
  have LZg1 : Hid (g0 ≤ g1) := Lib.hid (by omega)
  have L0 := Lib.hid (lt_of_heap b0)
  have L1 := Lib.hid (lt_of_heap b1)
  clear hw hc b0 b1 h hn hg0 hg1
  go_enter Tryz.func41, Tryz.ntmps41
  go_upto_region 1 with fail
  rw [← W2.out, S1.out, SZ.out]
  have z0 := cell_of B0.out 0
  have fz0 := free_of B0.out 0
  have z1 := cell_of B0.out 1
  have fz1 := free_of B0.out 1
  have z2 := cell_of B0.out 2
  have fz2 := free_of B0.out 2
  simp only [List.getElem?_toArray, List.getElem?_cons_succ, List.getElem?_cons_zero] at z0 z1 z2
  go_wp2_with fail
  refine (clone_any w2 A n c ys H.out HN.out).mono ?_
  rintro r w3 ⟨A3, c3, rfl, h3⟩
  clear z0 z1 z2 fz0 fz1 fz2
  replace B0 := Lib.hid (h3.2.2.at_ B0.out (by simp))
  replace B1 := Lib.hid (h3.2.2.at_ B1.out (by simp))
  have O3 := Lib.hid h3.1
  have N3 := Lib.hid h3.2.1
  have S2 := Lib.hid C.out.size
  replace C := Lib.hid (C.out.trans h3.2.2)
  have LT3 : Hid (∀ a, A3 = some a → a.block ≠ g0 ∧ a.block ≠ g1) := Lib.hid (fun a ha => by
    have q := N3.out a ha
    have r0 := L0.out
    have r1 := L1.out
    omega)
  clear h3
  have z0 := cell_of B0.out 0
  have fz0 := free_of B0.out 0
  have z1 := cell_of B0.out 1
  have fz1 := free_of B0.out 1
  have z2 := cell_of B0.out 2
  have fz2 := free_of B0.out 2
  simp only [List.getElem?_toArray, List.getElem?_cons_succ, List.getElem?_cons_zero] at z0 z1 z2
  go_upto_region 2 with fail
  clear z0 z1 z2 fz0 fz1 fz2
  obtain ⟨p0, p1, p2⟩ := set3_2 (.slice A3 n c3) B0.out B1.out NEg0.out LZg0.out C.out SZ.out
  generalize hW : (w3.setCell ⟨g0, 2, none⟩ (.slice A3 n c3)) = w4 at *
  replace B0 := Lib.hid p0
  replace B1 := Lib.hid p1
  have O4 := Lib.hid (O3.out.chg (S := [g0]) (hW ▸ (Chg.refl [g0] w3).put' 2 _) (fun a ha => by simp; exact (LT3.out a ha).1))
  replace C := Lib.hid p2
  clear p0 p1 p2 hW O3
  have z0 := cell_of B0.out 0
  have fz0 := free_of B0.out 0
  have z1 := cell_of B0.out 1
  have fz1 := free_of B0.out 1
  have z2 := cell_of B0.out 2
  have fz2 := free_of B0.out 2
  simp only [List.getElem?_toArray, List.getElem?_cons_succ, List.getElem?_cons_zero] at z0 z1 z2
  have y0 := cell_of B1.out 0
  have fy0 := free_of B1.out 0
  have y1 := cell_of B1.out 1
  have fy1 := free_of B1.out 1
  have y2 := cell_of B1.out 2
  have fy2 := free_of B1.out 2
  simp only [List.getElem?_toArray, List.getElem?_cons_succ, List.getElem?_cons_zero] at y0 y1 y2
  go_wp2
  clear z0 z1 z2 fz0 fz1 fz2
  clear y0 y1 y2 fy0 fy1 fy2
  obtain ⟨p0, p1, p2⟩ := set3_all (.int .i64 k) (.int .i64 m) (.slice A3 n c3) B1.out B0.out NEg1.out LZg1.out C.out SZ.out
  generalize hW : (((w4.setCell ⟨g1, 0, none⟩ (.int .i64 k)).setCell ⟨g1, 1, none⟩ (.int .i64 m)).setCell ⟨g1, 2, none⟩ (.slice A3 n c3)) = w5 at *
  have O5 := Lib.hid (O4.out.chg (S := [g1]) (hW ▸ (((Chg.refl [g1] w4).put' 0 _).put' 1 _).put' 2 _) (fun a ha => by simp; exact (LT3.out a ha).2))
  replace B1 := Lib.hid p0
  replace C := Lib.hid p2
  clear p0 p1 p2 hW O4
  have y0 := cell_of B1.out 0
  have y1 := cell_of B1.out 1
  have y2 := cell_of B1.out 2
  simp only [List.getElem?_toArray, List.getElem?_cons_succ, List.getElem?_cons_zero] at y0 y1 y2
  refine bodyPost_ret (v := .agg #[.int .i64 k, .int .i64 m, .slice A3 n c3]) (by simp [results, Tryz.results41, go_sem, y0, y1, y2]) rfl ?_
  exact ⟨A3, c3, rfl, O5.out, fun a ha => Nat.le_trans S2.out (N3.out a ha), C.out⟩
end
section
open Go.RowKit Go.Lib
set_option linter.unusedSimpArgs false
set_option linter.unusedVariables false

theorem en4_3 {w : World} {g : Nat} {a0 a1 a2 a3 : Value} {T : TypeId} (v1 v2 v3 : Value) (h : w.heap[g]? = some (.cells #[a0, a1, a2, a3] T (0, 0))) :
    (((w.setCell ⟨g, 1, none⟩ v1).setCell ⟨g, 2, none⟩ v2).setCell ⟨g, 3, none⟩ v3).heap[g]? = some (.cells #[a0, v1, v2, v3] T (0, 0)) ∧ Chg [g] w (((w.setCell ⟨g, 1, none⟩ v1).setCell ⟨g, 2, none⟩ v2).setCell ⟨g, 3, none⟩ v3) := by
  have p1 := heap_setCell_same _ g 1 _ _ v1 h
  have p2 := heap_setCell_same _ g 2 _ _ v2 p1
  have p3 := heap_setCell_same _ g 3 _ _ v3 p2
  exact ⟨by simpa using p3, (((Chg.refl [g] w).setCell (p := ⟨g, 1, none⟩) (.inl (by simp)) v1).setCell (p := ⟨g, 2, none⟩) (.inl (by simp)) v2).setCell (p := ⟨g, 3, none⟩) (.inl (by simp)) v3⟩
theorem en4_all {w : World} {g : Nat} {a0 a1 a2 a3 : Value} {T : TypeId} (v0 v1 v2 v3 : Value) (h : w.heap[g]? = some (.cells #[a0, a1, a2, a3] T (0, 0))) :
    ((((w.setCell ⟨g, 0, none⟩ v0).setCell ⟨g, 1, none⟩ v1).setCell ⟨g, 2, none⟩ v2).setCell ⟨g, 3, none⟩ v3).heap[g]? = some (.cells #[v0, v1, v2, v3] T (0, 0)) ∧ Chg [g] w ((((w.setCell ⟨g, 0, none⟩ v0).setCell ⟨g, 1, none⟩ v1).setCell ⟨g, 2, none⟩ v2).setCell ⟨g, 3, none⟩ v3) := by
  have p0 := heap_setCell_same _ g 0 _ _ v0 h
  have p1 := heap_setCell_same _ g 1 _ _ v1 p0
  have p2 := heap_setCell_same _ g 2 _ _ v2 p1
  have p3 := heap_setCell_same _ g 3 _ _ v3 p2
  exact ⟨by simpa using p3, ((((Chg.refl [g] w).setCell (p := ⟨g, 0, none⟩) (.inl (by simp)) v0).setCell (p := ⟨g, 1, none⟩) (.inl (by simp)) v1).setCell (p := ⟨g, 2, none⟩) (.inl (by simp)) v2).setCell (p := ⟨g, 3, none⟩) (.inl (by simp)) v3⟩
set_option maxRecDepth 100000 in
set_option maxHeartbeats 8000000 in
/-- A copy of an entry, in memory of its own. -/
theorem fren_any (w : World) (x : EnT) (e : EnP) (h : EnR w x e) (hs : e.b.length ≤ 140737488351232) :
    Calls Tryz.prog 78 #[.agg #[.string x.p, .int .i64 x.k, .int .i64 x.m, .slice x.A x.l x.c]] w fun r w' => ∃ X : EnT, r = .returned (.agg #[.string X.p, .int .i64 X.k, .int .i64 X.m, .slice X.A X.l X.c]) ∧ EnR w' X e ∧ OwnB w' X.A X.c e.b ∧ (∀ a, X.A = some a → w.heap.size ≤ a.block) ∧ Chg [] w w' := by
  obtain ⟨w2, hw, hc, b0, b1⟩ := news2 w (.cells #[.string x.p, .int .i64 x.k, .int .i64 x.m, .slice x.A x.l x.c] 55) (.cells #[.string ⟨#[]⟩, .int .i64 0, .int .i64 0, .slice none 0 0] 55)
  have W2 := Lib.hid hw
  have HR := Lib.hid (h.chg hc)
  have C := Lib.hid hc
  have HS := Lib.hid (show x.l ≤ 140737488351232 by rw [h.l]; exact hs)
  obtain ⟨g0, hg0⟩ : ∃ g, w.heap.size = g := ⟨_, rfl⟩
  obtain ⟨g1, hg1⟩ : ∃ g, w.heap.size + 1 = g := ⟨_, rfl⟩
  rw [hg0] at b0
  rw [hg1] at b1
  have S1 := Lib.hid hg1
  have SZ := Lib.hid hg0
  have B0 := Lib.hid b0
  have B1 := Lib.hid b1
  have L0 := Lib.hid (lt_of_heap b0)
  have L1 := Lib.hid (lt_of_heap b1)
  have NE : Hid (g1 ≠ g0) := Lib.hid (by omega)
  have NE' : Hid (g0 ≠ g1) := Lib.hid (by omega)
  clear hw hc b0 b1 h hs hg0 hg1
  go_enter Tryz.func78, Tryz.ntmps78
  go_upto_region 1 with fail
  rw [← W2.out, S1.out, SZ.out]
  clear W2
  have z0 := cell_of B0.out 0
  have fz0 := free_of B0.out 0
  have z1 := cell_of B0.out 1
  have fz1 := free_of B0.out 1
  have z2 := cell_of B0.out 2
  have fz2 := free_of B0.out 2
  have z3 := cell_of B0.out 3
  have fz3 := free_of B0.out 3
  simp only [List.getElem?_toArray, List.getElem?_cons_succ, List.getElem?_cons_zero] at z0 z1 z2 z3
  go_wp2_with fail
  refine (freff_any w2 x.k x.m x.A x.l x.c e.b HR.out.A HS.out).mono ?_
  rintro r w3 ⟨A3, c3, rfl, h3⟩
  clear z0 z1 z2 z3 fz0 fz1 fz2 fz3
  replace B0 := Lib.hid (h3.2.2.at_ B0.out (by simp))
  replace B1 := Lib.hid (h3.2.2.at_ B1.out (by simp))
  have O3 := Lib.hid h3.1
  have N3 := Lib.hid h3.2.1
  have S2 := Lib.hid C.out.size
  replace C := Lib.hid (C.out.trans h3.2.2)
  have LT3 : Hid (∀ a, A3 = some a → a.block ≠ g0 ∧ a.block ≠ g1) := Lib.hid (fun a ha => by
    have q := N3.out a ha
    have r0 := L0.out
    have r1 := L1.out
    omega)
  clear h3
  have z0 := cell_of B0.out 0
  have fz0 := free_of B0.out 0
  have z1 := cell_of B0.out 1
  have fz1 := free_of B0.out 1
  have z2 := cell_of B0.out 2
  have fz2 := free_of B0.out 2
  have z3 := cell_of B0.out 3
  have fz3 := free_of B0.out 3
  simp only [List.getElem?_toArray, List.getElem?_cons_succ, List.getElem?_cons_zero] at z0 z1 z2 z3
  go_upto_region 2 with fail
  clear z0 z1 z2 z3 fz0 fz1 fz2 fz3
  obtain ⟨p0, pc⟩ := en4_3 (.int .i64 x.k) (.int .i64 x.m) (.slice A3 x.l c3) B0.out
  replace B0 := Lib.hid p0
  replace B1 := Lib.hid (pc.at_ B1.out (by have := NE.out; simpa using this))
  have O4 := Lib.hid (O3.out.chg pc (fun a ha => by simp; exact (LT3.out a ha).1))
  replace C := Lib.hid (C.out.trans' pc (fun i hi => .inr (by have := SZ.out; simp at hi; omega)))
  clear p0 pc O3
  obtain ⟨w4, hW⟩ : ∃ w9 : World, (((w3.setCell ⟨g0, 1, none⟩ (.int .i64 x.k)).setCell ⟨g0, 2, none⟩ (.int .i64 x.m)).setCell ⟨g0, 3, none⟩ (.slice A3 x.l c3)) = w9 := ⟨_, rfl⟩
  rw [hW] at B0 B1 O4 C ⊢
  clear hW
  have z0 := cell_of B0.out 0
  have fz0 := free_of B0.out 0
  have z1 := cell_of B0.out 1
  have fz1 := free_of B0.out 1
  have z2 := cell_of B0.out 2
  have fz2 := free_of B0.out 2
  have z3 := cell_of B0.out 3
  have fz3 := free_of B0.out 3
  simp only [List.getElem?_toArray, List.getElem?_cons_succ, List.getElem?_cons_zero] at z0 z1 z2 z3
  have y0 := cell_of B1.out 0
  have fy0 := free_of B1.out 0
  have y1 := cell_of B1.out 1
  have fy1 := free_of B1.out 1
  have y2 := cell_of B1.out 2
  have fy2 := free_of B1.out 2
  have y3 := cell_of B1.out 3
  have fy3 := free_of B1.out 3
  simp only [List.getElem?_toArray, List.getElem?_cons_succ, List.getElem?_cons_zero] at y0 y1 y2 y3
  go_wp2
  clear z0 z1 z2 z3 fz0 fz1 fz2 fz3
  clear y0 y1 y2 y3 fy0 fy1 fy2 fy3
  obtain ⟨p0, pc⟩ := en4_all (.string x.p) (.int .i64 x.k) (.int .i64 x.m) (.slice A3 x.l c3) B1.out
  replace B1 := Lib.hid p0
  have O5 := Lib.hid (O4.out.chg pc (fun a ha => by simp; exact (LT3.out a ha).2))
  replace C := Lib.hid (C.out.trans' pc (fun i hi => .inr (by have := S1.out; simp at hi; omega)))
  clear p0 pc O4
  obtain ⟨w5, hW⟩ : ∃ w9 : World, ((((w4.setCell ⟨g1, 0, none⟩ (.string x.p)).setCell ⟨g1, 1, none⟩ (.int .i64 x.k)).setCell ⟨g1, 2, none⟩ (.int .i64 x.m)).setCell ⟨g1, 3, none⟩ (.slice A3 x.l c3)) = w9 := ⟨_, rfl⟩
  rw [hW] at B1 O5 C ⊢
  clear hW
  have y0 := cell_of B1.out 0
  have y1 := cell_of B1.out 1
  have y2 := cell_of B1.out 2
  have y3 := cell_of B1.out 3
  simp only [List.getElem?_toArray, List.getElem?_cons_succ, List.getElem?_cons_zero] at y0 y1 y2 y3
  refine bodyPost_ret (v := .agg #[.string x.p, .int .i64 x.k, .int .i64 x.m, .slice A3 x.l c3]) (by simp [results, Tryz.results78, go_sem, y0, y1, y2, y3]) rfl ?_
  exact ⟨⟨x.p, x.k, x.m, A3, x.l, c3⟩, rfl, ⟨HR.out.p, HR.out.k, HR.out.m, HR.out.l, by have q := O5.out.reads; rw [← HR.out.l] at q; exact q⟩, O5.out, fun a ha => Nat.le_trans S2.out (N3.out a ha), C.out⟩
end
section
open Go.RowKit Go.Lib
set_option linter.unusedSimpArgs false
set_option linter.unusedVariables false

theorem find_get {es : List EnP} {p : List UInt8} {v : Int} (h : findT es p v) : (v = -1 ∧ getT es p = none) ∨ ∃ (k : Nat) (e : EnP), v = k ∧ es[k]? = some e ∧ getT es p = some e := by
  rcases h with ⟨h1, h2⟩ | ⟨k, e, h1, h2, h3, h4⟩
  · refine .inl ⟨h1, get_none.2 (fun e he q => ?_)⟩
    have := h2 e he
    simp only [decide_eq_false_iff_not] at this
    exact this q
  · refine .inr ⟨k, e, h1, h2, ?_⟩
    unfold getT
    have hk := (List.getElem?_eq_some_iff.1 h2).1
    rw [← List.take_append_drop k es, List.find?_append, List.find?_eq_none.2 (fun x hx => by have := h4 x hx; simpa using this)]
    have hd : es.drop k = e :: es.drop (k + 1) := by
      rw [List.drop_eq_getElem_cons hk, (List.getElem?_eq_some_iff.1 h2).2]
    have h5 : decide (e.p = p) = true := h3
    rw [hd, List.find?_cons, h5]
    rfl
theorem ef3_all {w : World} {g : Nat} {a0 a1 a2 : Value} {T : TypeId} (v0 v1 v2 : Value) (h : w.heap[g]? = some (.cells #[a0, a1, a2] T (0, 0))) :
    (((w.setCell ⟨g, 0, none⟩ v0).setCell ⟨g, 1, none⟩ v1).setCell ⟨g, 2, none⟩ v2).heap[g]? = some (.cells #[v0, v1, v2] T (0, 0)) ∧ Chg [g] w (((w.setCell ⟨g, 0, none⟩ v0).setCell ⟨g, 1, none⟩ v1).setCell ⟨g, 2, none⟩ v2) := by
  have p0 := heap_setCell_same _ g 0 _ _ v0 h
  have p1 := heap_setCell_same _ g 1 _ _ v1 p0
  have p2 := heap_setCell_same _ g 2 _ _ v2 p1
  exact ⟨by simpa using p2, (((Chg.refl [g] w).setCell (p := ⟨g, 0, none⟩) (.inl (by simp)) v0).setCell (p := ⟨g, 1, none⟩) (.inl (by simp)) v1).setCell (p := ⟨g, 2, none⟩) (.inl (by simp)) v2⟩
end
section
open Go.RowKit Go.Lib
set_option linter.unusedSimpArgs false
set_option linter.unusedVariables false

/-- Bytes do not lie in the box of an effect. -/
theorem bs_ebox {w w' : World} {A B : Option Addr} {n l c g : Nat} {xs : List UInt8} {k m : Int} {T : TypeId} (h : Bs w A n xs) (hb : w.heap[g]? = some (.cells #[.int .i64 k, .int .i64 m, .slice B l c] T (0, 0))) (hc : Chg [g] w w') : Bs w' A n xs := by
  refine ⟨h.len, fun j v hj => ?_⟩
  obtain ⟨a, ha, hx⟩ := h.cells j v hj
  refine ⟨a, ha, hc.cell hx (fun q => ?_)⟩
  have q : (a.add j).block = g := by simpa using q
  simp only [World.cell?, q, hb] at hx
  split at hx
  · cases hx
  · have r := List.mem_of_getElem? (show ([.int .i64 k, .int .i64 m, .slice B l c] : List Value)[(a.add j).off]? = some (bv v) by simpa using hx)
    simp [bv] at r
theorem get_first {t : List EnP} {p : List UInt8} {k : Nat} {e : EnP} (he : t[k]? = some e) (hp : e.p = p) (hn : ∀ x ∈ t.take k, x.p ≠ p) : getT t p = some e := by
  rcases find_get (es := t) (p := p) (v := k) (.inr ⟨k, e, rfl, he, decide_eq_true hp, fun x hx => decide_eq_false (hn x hx)⟩) with ⟨h, _⟩ | ⟨j, f, hj, hf, hg⟩
  · omega
  · obtain rfl : k = j := by omega
    rw [he] at hf
    cases hf
    exact hg
set_option maxRecDepth 100000 in
set_option maxHeartbeats 4000000 in
theorem tdget_any (w : World) (A : Option Addr) (c : Nat) (xs : List EnT) (es : List EnP) (p : List UInt8) (h : RdK enTy w A xs.length xs) (hx : EnsR w xs es) (hn : xs.length ≤ 100000) :
    Calls Tryz.prog 14 #[.slice A xs.length c, .string (strOf p)] w fun r w' => ∃ (A' : Option Addr) (c' : Nat), r = .returned (.tuple #[.agg #[.int .i64 ((getT es p).getD ⟨[], 0, 0, []⟩).k, .int .i64 ((getT es p).getD ⟨[], 0, 0, []⟩).m, .slice A' ((getT es p).getD ⟨[], 0, 0, []⟩).b.length c'], .bool (getT es p).isSome]) ∧ Bs w' A' ((getT es p).getD ⟨[], 0, 0, []⟩).b.length ((getT es p).getD ⟨[], 0, 0, []⟩).b ∧ Chg [] w w' := by
  obtain ⟨w1, hw, hc, b0⟩ := news1 w (.cells #[.int .i64 0, .int .i64 0, .slice none 0 0] 25)
  have W1 := Lib.hid hw
  have C := Lib.hid hc
  have B0 := Lib.hid b0
  have HA := Lib.hid (h.chg hc (by simp))
  have HX := Lib.hid (hx.chg hc)
  have HN := Lib.hid hn
  obtain ⟨R, hR⟩ : ∃ R, getT es p = R := ⟨_, rfl⟩
  rw [hR]
  have RN := Lib.hid hR
  clear hw hc b0 h hx hn hR
  go_enter Tryz.func14, Tryz.ntmps14
  go_upto_region 1 with fail
  rw [← W1.out]
  obtain ⟨g0, hg0⟩ : ∃ g, w.heap.size = g := ⟨_, rfl⟩
  rw [hg0] at B0 ⊢
  have G0 : Hid (w.heap.size ≤ g0) := Lib.hid (by omega)
  clear W1 hg0
  go_wp2
  go_loopw [6] (fun v6 wr => ∃ k : Nat, k ≤ xs.length ∧ v6 = .int .i64 (k : Int) ∧ Hid (∀ x ∈ es.take k, x.p ≠ p) ∧ wr = w1) (fun v6 _ => xs.length - (RowKit.intOf v6).toNat)
  case atStart => exact ⟨0, Nat.zero_le _, rfl, Lib.hid (by simp), rfl⟩
  case round =>
    obtain ⟨k, hk, rfl, NO, rfl⟩ := hrel
    have i0 : (0 : Int) ≤ (k : Int) := by omega
    by_cases hlt : k < xs.length
    · have i1 : (k : Int) < (xs.length : Int) := by omega
      have i3 : IntKind.i64.wrap ((k : Int) + 1) = (k : Int) + 1 := IntWalk.i64_in _ (by have := HN.out; omega)
      obtain ⟨x, e, ex, ee, rx⟩ := HX.out.at_ hlt
      obtain ⟨g, o, eA, _⟩ := HA.out.line (by omega)
      subst eA
      obtain ⟨t0, t1, t2, t3⟩ := enCells HA.out ex
      have RX := Lib.hid rx
      have EE := Lib.hid ee
      rw [RX.out.p] at t0
      rw [RX.out.k] at t1
      rw [RX.out.m] at t2
      rw [RX.out.l] at t3
      clear ex ee rx
      by_cases hp : e.p = p
      · obtain rfl : R = some e := by rw [← RN.out]; exact get_first EE.out hp NO.out
        have e1 : ((e.p == p) : Bool) = true := by simpa using hp
        replace RX : Hid (EnR wr ⟨x.p, x.k, x.m, x.A, e.b.length, x.c⟩ e) := Lib.hid ⟨RX.out.p, RX.out.k, RX.out.m, rfl, by have q := RX.out.A; rw [RX.out.l] at q; exact q⟩
        clear hp
        have z0 := cell_of B0.out 0
        have fz0 := free_of B0.out 0
        have z1 := cell_of B0.out 1
        have fz1 := free_of B0.out 1
        have z2 := cell_of B0.out 2
        have fz2 := free_of B0.out 2
        simp only [List.getElem?_toArray, List.getElem?_cons_succ, List.getElem?_cons_zero] at z0 z1 z2
        go_wp2
        clear z0 z1 z2 fz0 fz1 fz2
        clear t0 t1 t2 t3
        obtain ⟨p0, pc⟩ := ef3_all (.int .i64 e.k) (.int .i64 e.m) (.slice x.A e.b.length x.c) B0.out
        have RB := Lib.hid (bs_ebox RX.out.A B0.out pc)
        replace B0 := Lib.hid p0
        replace C := Lib.hid (C.out.trans' pc (fun i hi => .inr (by have := G0.out; simp at hi; omega)))
        clear p0 pc
        obtain ⟨w4, hW⟩ : ∃ w9 : World, (((wr.setCell ⟨g0, 0, none⟩ (.int .i64 e.k)).setCell ⟨g0, 1, none⟩ (.int .i64 e.m)).setCell ⟨g0, 2, none⟩ (.slice x.A e.b.length x.c)) = w9 := ⟨_, rfl⟩
        rw [hW] at B0 C RB ⊢
        clear hW
        have y0 := cell_of B0.out 0
        have y1 := cell_of B0.out 1
        have y2 := cell_of B0.out 2
        simp only [List.getElem?_toArray, List.getElem?_cons_succ, List.getElem?_cons_zero] at y0 y1 y2
        refine bodyPost_ret (v := .tuple #[.agg #[.int .i64 e.k, .int .i64 e.m, .slice x.A e.b.length x.c], .bool true]) (by simp [results, Tryz.results14, go_sem, y0, y1, y2]) rfl ?_
        exact ⟨x.A, x.c, rfl, RB.out, C.out⟩
      · have e1 : ((e.p == p) : Bool) = false := by simpa using hp
        have NO1 : Hid (∀ y ∈ es.take (k + 1), y.p ≠ p) := Lib.hid (fun y hy => by
          rw [List.take_add_one, EE.out, List.mem_append] at hy
          rcases hy with q | q
          · exact NO.out y q
          · simp at q; rw [q]; exact hp)
        clear hp
        go_wp2
        go_round
        case rel => first | exact ⟨k + 1, by omega, by go_num, NO1, rfl⟩ | exact ⟨k + 1, by omega, by go_num, NO1, trivial⟩
        case measure => simp [RowKit.intOf]; omega
    · obtain rfl : k = xs.length := by omega
      have i1 : ¬ (xs.length : Int) < (xs.length : Int) := by omega
      obtain rfl : R = none := by rw [← RN.out]; exact get_none.2 (fun y hy => NO.out y (by rw [HX.out.1, List.take_length]; exact hy))
      have z0 := cell_of B0.out 0
      have fz0 := free_of B0.out 0
      have z1 := cell_of B0.out 1
      have fz1 := free_of B0.out 1
      have z2 := cell_of B0.out 2
      have fz2 := free_of B0.out 2
      simp only [List.getElem?_toArray, List.getElem?_cons_succ, List.getElem?_cons_zero] at z0 z1 z2
      go_wp2
      clear z0 z1 z2 fz0 fz1 fz2
      obtain ⟨p0, pc⟩ := ef3_all (.int .i64 0) (.int .i64 0) (.slice none 0 0) B0.out
      replace B0 := Lib.hid p0
      replace C := Lib.hid (C.out.trans' pc (fun i hi => .inr (by have := G0.out; simp at hi; omega)))
      clear p0 pc
      obtain ⟨w4, hW⟩ : ∃ w9 : World, (((wr.setCell ⟨g0, 0, none⟩ (.int .i64 0)).setCell ⟨g0, 1, none⟩ (.int .i64 0)).setCell ⟨g0, 2, none⟩ (.slice none 0 0)) = w9 := ⟨_, rfl⟩
      rw [hW] at B0 C ⊢
      clear hW
      have y0 := cell_of B0.out 0
      have y1 := cell_of B0.out 1
      have y2 := cell_of B0.out 2
      simp only [List.getElem?_toArray, List.getElem?_cons_succ, List.getElem?_cons_zero] at y0 y1 y2
      refine bodyPost_ret (v := .tuple #[.agg #[.int .i64 0, .int .i64 0, .slice none 0 0], .bool false]) (by simp [results, Tryz.results14, go_sem, y0, y1, y2]) rfl ?_
      first | exact ⟨none, 0, rfl, ⟨rfl, fun j v hj => by simp at hj⟩, C.out⟩ | exact ⟨none, ⟨0, rfl⟩, ⟨rfl, fun j v hj => by simp at hj⟩, C.out⟩
end
section
open Go.RowKit
set_option linter.unusedSimpArgs false
set_option linter.unusedVariables false
theorem unc_len (M : Nat) : ∀ xs : List (List UInt8), (∀ x ∈ xs, x.length ≤ M) → (unc xs).length ≤ xs.length * (M + 1)
  | [], _ => by simp [unc]
  | [x], h => by have := h x (by simp); simp [unc]; omega
  | x :: y :: r, h => by
    have h1 := h x (by simp)
    have h2 := unc_len M (y :: r) (fun z hz => h z (by simp at hz ⊢; exact .inr hz))
    rw [unc_cons x (y :: r) (by simp), List.length_append, List.length_cons, List.length_cons (a := x), Nat.succ_mul]
    omega
set_option maxRecDepth 100000 in
set_option maxHeartbeats 2000000 in
theorem qjoin_any (w : World) (A : Option Addr) (c : Nat) (xs : List (List UInt8)) (h : RdK textTy w A xs.length xs) (hn : xs.length ≤ 1000000) (hl : ∀ x ∈ xs, x.length ≤ 10000000) :
    Calls Tryz.prog 114 #[.slice A xs.length c] w fun e w' => e = .returned (.string (strOf (unc xs))) ∧ w' = w := by
  have HA := Lib.hid h
  obtain ⟨R, hR⟩ : ∃ R, strOf (unc xs) = R := ⟨_, rfl⟩
  rw [hR]
  have HR := Lib.hid hR
  have HL := Lib.hid hl
  clear h hR hl
  go_enter Tryz.func114, Tryz.ntmps114
  go_wp2
  go_loopw [3, 4] (fun v3 v4 wr => ∃ k : Nat, k ≤ xs.length ∧ v4 = .int .i64 (k : Int) ∧ v3 = .string (strOf (unc (xs.take k))) ∧ wr = w) (fun _ v4 _ => xs.length - (RowKit.intOf v4).toNat)
  case atStart => exact ⟨0, Nat.zero_le _, rfl, rfl, rfl⟩
  case round =>
    obtain ⟨k, hk, rfl, rfl, rfl⟩ := hrel
    have k1 : IntKind.i64.wrap ((k : Int) + 1) = (k : Int) + 1 := IntWalk.i64_in _ (by omega)
    have i0 : (0 : Int) ≤ (k : Int) := by omega
    by_cases hlt : k < xs.length
    · have i1 : (k : Int) < (xs.length : Int) := by omega
      obtain ⟨g, o, eA, _⟩ := HA.out.line (by omega)
      subst eA
      have ex := List.getElem?_eq_getElem hlt
      have z := textCells HA.out ex
      have HT := Lib.hid (List.take_succ_eq_append_getElem hlt)
      have hx := HL.out xs[k] (List.getElem_mem hlt)
      have hu := unc_len 10000000 (xs.take k) (fun x hx => HL.out x (List.mem_of_mem_take hx))
      have hu2 : (xs.take k).length * (10000000 + 1) ≤ 1000000 * (10000000 + 1) := Nat.mul_le_mul_right _ (by rw [List.length_take]; omega)
      generalize xs[k] = x at *
      have sx := strOf_size x
      by_cases hk0 : k = 0
      · subst hk0
        rw [Nat.add_zero] at z
        have i2 : ¬ ((0 : Int) < 0) := by omega
        rw [show unc (xs.take 0) = [] from rfl]
        have s0 := strOf_size []
        have ea : strOf [] ++ strOf x = strOf x := by apply ByteArray.ext; simp [strOf]
        have e1 : unc (xs.take (0 + 1)) = x := by rw [HT.out]; rfl
        have HE := Lib.hid e1
        clear ex e1 hu hu2
        go_wp2
        exact ⟨⟨1, by omega, by simp, by first | (rw [HE.out]; simp [ea]; done) | (rw [HE.out]; done) | (rw [HE.out]; exact congrArg Value.string ea), trivial⟩, by simp [RowKit.intOf]; omega⟩
      · have i2 : (0 : Int) < (k : Int) := by omega
        have hne : xs.take k ≠ [] := by
          intro e
          have := congrArg List.length e
          rw [List.length_take, Nat.min_eq_left hk] at this
          exact hk0 this
        have e1 : unc (xs.take (k + 1)) = unc (xs.take k) ++ 47 :: x := by rw [HT.out, unc_snoc _ _ hne]
        have HE := Lib.hid e1
        have hu3 : (unc (xs.take k)).length ≤ 10000001000000 := by omega
        clear ex e1 hne hu hu2
        generalize unc (xs.take k) = p at *
        have s0 := strOf_size p
        have ea : strOf p ++ (⟨#[47]⟩ : ByteArray) = strOf (p ++ [47]) := by apply ByteArray.ext; simp [strOf]
        have s1 := strOf_size (p ++ [47])
        have s2 : (p ++ [47]).length = p.length + 1 := by simp
        have eb : strOf (p ++ [47]) ++ strOf x = strOf (p ++ 47 :: x) := by apply ByteArray.ext; simp [strOf]
        go_wp2
        exact ⟨⟨k + 1, by omega, by simp, by first | (rw [HE.out]; done) | (rw [HE.out]; simp [ea, eb]), trivial⟩, by simp [RowKit.intOf]; omega⟩
    · obtain rfl : k = xs.length := by omega
      rw [List.take_length]
      have i1 : ¬ ((xs.length : Int) < (xs.length : Int)) := by omega
      rw [HR.out]
      go_wp2
      go_ret
      exact ⟨rfl, rfl⟩
end
section
open Go.RowKit
set_option linter.unusedSimpArgs false
set_option linter.unusedVariables false
theorem qsplit_no (w : World) (l : List UInt8) (hl : l.length ≤ 10000000) (hp : okP l = false) :
    Calls Tryz.prog 113 #[.string (strOf l)] w fun e w' => e = .returned (.tuple #[.slice none 0 0, .int .i64 2]) ∧ Chg [] w w' := by
  have C1 := Lib.hid (qcheck_p l false hp hl)
  clear hp
  go_enter Tryz.func113, Tryz.ntmps113
  go_wp2_with fail
  refine (C1.out _).mono ?_
  rintro e w1 ⟨rfl, hc⟩
  go_wp2
  go_ret2
  exact ⟨rfl, hc⟩
theorem qsplit_yes (w : World) (l : List UInt8) (hl : l.length ≤ 10000000) (hp : okP l = true) :
    Calls Tryz.prog 113 #[.string (strOf l)] w fun e w' => ∃ A c, e = .returned (.tuple #[.slice A (cutL l).length c, .int .i64 0]) ∧ OwnK textTy w' A c (cutL l) ∧ (∀ a, A = some a → w.heap.size ≤ a.block) ∧ Chg [] w w' := by
  have C1 := Lib.hid (qcheck_p l true hp hl)
  have C2 := Lib.hid (fun w => qcut_any w l hl)
  clear hp
  generalize cutL l = xs at *
  go_enter Tryz.func113, Tryz.ntmps113
  go_wp2_with fail
  refine (C1.out _).mono ?_
  rintro e w1 ⟨rfl, hc⟩
  go_wp2_with fail
  refine (C2.out _).mono ?_
  rintro e w2 ⟨A, c, rfl, h1, h2, h3⟩
  have H1 := Lib.hid h1
  have H2 := Lib.hid h2
  have H3 := Lib.hid h3
  clear h1 h2 h3
  go_wp2
  go_ret2
  exact ⟨A, c, rfl, H1.out, fun a ha => Nat.le_trans hc.size (H2.out a ha), hc.trans H3.out⟩
set_option maxHeartbeats 2000000 in
theorem qparent_any (w : World) (l : List UInt8) (hl : l.length ≤ 900000) :
    Calls Tryz.prog 88 #[.string (strOf l)] w fun e w' => e = .returned (.tuple #[.string (strOf (parentL l)), .bool (hasParent l)]) ∧ Chg [] w w' := by
  cases hp : okP l with
  | false =>
    have hq : parentL l = [] := by unfold parentL; rw [hp]; rfl
    have hh : hasParent l = false := by unfold hasParent; rw [hp]; rfl
    rw [hq, hh]
    have C1 := Lib.hid (fun w => qsplit_no w l (by omega) hp)
    clear hp hq hh
    go_enter Tryz.func88, Tryz.ntmps88
    go_wp2_with fail
    refine (C1.out _).mono ?_
    rintro e w1 ⟨rfl, hc⟩
    go_wp2
    go_ret2
    exact ⟨rfl, hc⟩
  | true =>
    have C1 := Lib.hid (fun w => qsplit_yes w l (by omega) hp)
    have hq : parentL l = if 2 ≤ (cutL l).length then unc (cutL l).dropLast else [] := by unfold parentL; rw [hp]; simp
    have hh : hasParent l = decide (2 ≤ (cutL l).length) := by unfold hasParent; rw [hp]; simp
    rw [hq, hh]
    have hx : ∀ x ∈ cutL l, x.length ≤ 10000000 := fun x hx => by have := cutA_short l [] x hx; simp at this; omega
    have hn : (cutL l).length ≤ 1000000 := by have := cutA_len l []; show (cutA [] l).length ≤ _; omega
    clear hp hq hh
    generalize cutL l = xs at *
    have HX := Lib.hid hx
    clear hx
    by_cases h2 : 2 ≤ xs.length
    · rw [if_pos h2, decide_eq_true h2]
      have i1 : ¬ ((xs.length : Int) < 2) := by omega
      have k1 : IntKind.i64.wrap ((xs.length : Int) - 1) = (xs.length : Int) - 1 := IntWalk.i64_in _ (by omega)
      have i2 : (0 : Int) ≤ (xs.length : Int) - 1 := by omega
      have nt : ((xs.length : Int) - 1).toNat = xs.length - 1 := by omega
      go_enter Tryz.func88, Tryz.ntmps88
      go_wp2_with fail
      refine (C1.out _).mono ?_
      rintro e w1 ⟨A, c, rfl, h1, _, h3⟩
      have hcap := h1.cap.1
      have i3 : (xs.length : Int) - 1 ≤ (c : Int) := by omega
      have i4 : xs.length - 1 ≤ c := by omega
      have QJ := Lib.hid (show Calls Tryz.prog 114 #[.slice A (xs.length - 1) c] w1 fun e w' => e = .returned (.string (strOf (unc xs.dropLast))) ∧ w' = w1 from by
        have ho := (h1.take (xs.length - 1)).reads
        have := qjoin_any w1 A c (xs.take (xs.length - 1)) ho (by rw [List.length_take]; omega) (fun x hx => HX.out x (List.mem_of_mem_take hx))
        rw [List.length_take, Nat.min_eq_left (by omega), ← List.dropLast_eq_take] at this
        exact this)
      have H3 := Lib.hid h3
      obtain ⟨e0, e1, e2⟩ | ⟨g, e0, _⟩ := h1.shape
      · subst e1; simp at h2
      subst e0
      clear h1 h3
      go_wp2_with fail
      refine QJ.out.mono ?_
      rintro e w2 ⟨rfl, rfl⟩
      go_wp2
      go_ret2
      exact ⟨rfl, H3.out⟩
    · rw [if_neg h2, decide_eq_false h2]
      have i1 : ((xs.length : Int) < 2) := by omega
      go_enter Tryz.func88, Tryz.ntmps88
      go_wp2_with fail
      refine (C1.out _).mono ?_
      rintro e w1 ⟨A, c, rfl, _, _, h3⟩
      go_wp2
      go_ret2
      exact ⟨rfl, h3⟩
end
end Go.Proofs.YtimdfpejgaidhaaGreatDoor
