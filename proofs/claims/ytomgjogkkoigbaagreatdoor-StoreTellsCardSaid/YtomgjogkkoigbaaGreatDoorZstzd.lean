/- The law's one, is, three (layer 10). SameTexts; the document's join, Split. The law's awake (layer 10), by contracts. The kit's CopyEvents, with what it makes new. StoreTells. Rows of events as arguments. Nothing is asked of the variables. -/
import Derived.Test.YtomgjogkkoigbaaGreatDoorZstzc
import Derived.Test.YtomgjogkkoigbaaGreatDoorZste
import Derived.Deep.Cut
import Derived.Test.YtomgjogkkoigbaaGreatDoorZstr
import Derived.Test.YtomgjogkkoigbaaGreatDoorZstb
import Derived.Deep.RegionHeld3
import Derived.Test.YtomgjogkkoigbaaGreatDoorZstj
import Derived.Test.YtomgjogkkoigbaaGreatDoorZstza
import Derived.Test.YtomgjogkkoigbaaGreatDoorZstt
import Derived.Test.YtomgjogkkoigbaaGreatDoorZstq
import Derived.Test.YtomgjogkkoigbaaGreatDoorZsti
import Derived.Test.YtomgjogkkoigbaaGreatDoorLaid0
set_option linter.unusedSimpArgs false
set_option linter.unusedVariables false
namespace Go.Proofs.YtomgjogkkoigbaaGreatDoor
section
open Go.RowKit Go.Lib


set_option maxRecDepth 100000 in
set_option maxHeartbeats 2000000 in
theorem l10one_any (w : World) (n s : Int) (p : ByteArray) (B : Option Addr) (bl bc : Nat) : Calls Tryz.prog 77 #[.int .i64 n, .int .i64 s, .string p, .slice B bl bc] w fun r w' => r = .returned (.agg #[.int .i64 n, .int .i64 s, .string p, .int .i64 1, .int .i64 0, .slice none 0 0, .slice B bl bc]) ∧ Chg [] w w' := by
 have C : Hid (Chg [] w (w.alloc (.cells #[.int .i64 n, .int .i64 s, .string p, .int .i64 1, .int .i64 0, .slice none 0 0, .slice B bl bc] 30))) := Lib.hid ((Chg.refl [] w).alloc _)
 have b := heap_alloc_new w (.cells #[.int .i64 n, .int .i64 s, .string p, .int .i64 1, .int .i64 0, .slice none 0 0, .slice B bl bc] 30)
 go_enter Tryz.func77, Tryz.ntmps77
 go_wp2
 have z0 := cell_of b 0
 have z1 := cell_of b 1
 have z2 := cell_of b 2
 have z3 := cell_of b 3
 have z4 := cell_of b 4
 have z5 := cell_of b 5
 have z6 := cell_of b 6
 simp only [List.getElem?_toArray, List.getElem?_cons_succ, List.getElem?_cons_zero] at z0 z1 z2 z3 z4 z5 z6
 refine bodyPost_ret (v := .agg #[.int .i64 n, .int .i64 s, .string p, .int .i64 1, .int .i64 0, .slice none 0 0, .slice B bl bc]) (by simp [results, Tryz.results77, go_sem, z0, z1, z2, z3, z4, z5, z6]) rfl ?_
 exact ⟨rfl, C.out⟩
set_option maxRecDepth 100000 in
set_option maxHeartbeats 2000000 in
theorem l10is_any (w : World) (A B : Option Addr) (c d : Nat) (xs ys : List EvT) (es fs : List EvP) (h : RdK evTy w A xs.length xs) (h' : RdK evTy w B ys.length ys) (hx : EvsR w xs es) (hy : EvsR w ys fs) (hn : xs.length ≤ 100000 ∧ ys.length ≤ 100000) (hq : (∀ e ∈ es, e.q.length ≤ 140737488351232) ∧ (∀ e ∈ fs, e.q.length ≤ 140737488351232)) :
  Calls Tryz.prog 44 #[.slice A xs.length c, .slice B ys.length d] w fun r w' => r = .returned (.bool (sameL es fs)) ∧ Chg [] w w' := by
 have CC := Lib.hid (sameevs_any w A B c d xs ys es fs h h' hx hy hn hq)
 clear h h' hx hy hn hq
 generalize sameL es fs = v at *
 go_enter Tryz.func44, Tryz.ntmps44
 go_wp2_with fail
 refine CC.out.mono ?_
 rintro r w1 ⟨rfl, hc⟩
 go_wp2; go_ret
 exact ⟨rfl, hc⟩
set_option maxHeartbeats 4000000 in
theorem set7_heap {w : World} {g : Nat} {T : TypeId} {a0 a1 a2 a3 a4 a5 a6 : Value} (v0 v1 v2 v3 v4 v5 v6 : Value) (h : w.heap[g]? = some (.cells #[a0, a1, a2, a3, a4, a5, a6] T (0, 0))) :
  (((((((w.setCell ⟨g, 0, none⟩ v0).setCell ⟨g, 1, none⟩ v1).setCell ⟨g, 2, none⟩ v2).setCell ⟨g, 3, none⟩ v3).setCell ⟨g, 4, none⟩ v4).setCell ⟨g, 5, none⟩ v5).setCell ⟨g, 6, none⟩ v6).heap[g]? = some (.cells #[v0, v1, v2, v3, v4, v5, v6] T (0, 0)) := by
 have p0 := heap_setCell_same w g 0 _ _ v0 h
 have p1 := heap_setCell_same _ g 1 _ _ v1 p0
 have p2 := heap_setCell_same _ g 2 _ _ v2 p1
 have p3 := heap_setCell_same _ g 3 _ _ v3 p2
 have p4 := heap_setCell_same _ g 4 _ _ v4 p3
 have p5 := heap_setCell_same _ g 5 _ _ v5 p4
 exact heap_setCell_same _ g 6 _ _ v6 p5


set_option maxRecDepth 100000 in
set_option maxHeartbeats 8000000 in
theorem l10three_any (w : World) : Calls Tryz.prog 43 #[] w fun r w' => ∃ X Y Z : EvT, r = .returned (.tuple #[.agg #[.int .i64 X.n, .int .i64 X.s, .string X.p, .int .i64 X.k, .int .i64 X.m, .slice X.A X.l X.c, .slice X.B X.bl X.bc], .agg #[.int .i64 Y.n, .int .i64 Y.s, .string Y.p, .int .i64 Y.k, .int .i64 Y.m, .slice Y.A Y.l Y.c, .slice Y.B Y.bl Y.bc], .agg #[.int .i64 Z.n, .int .i64 Z.s, .string Z.p, .int .i64 Z.k, .int .i64 Z.m, .slice Z.A Z.l Z.c, .slice Z.B Z.bl Z.bc]]) ∧ EvR w' X s1E ∧ EvR w' Y s2E ∧ EvR w' Z s3E ∧ Chg [] w w' := by
 obtain ⟨w1, hw1, c1, b0, b1, b2⟩ := news3 w (.cells #[.int .i64 0, .int .i64 0, .string ⟨#[]⟩, .int .i64 0, .int .i64 0, .slice none 0 0, .slice none 0 0] 30) (.cells #[.int .i64 0, .int .i64 0, .string ⟨#[]⟩, .int .i64 0, .int .i64 0, .slice none 0 0, .slice none 0 0] 30) (.cells #[.int .i64 0, .int .i64 0, .string ⟨#[]⟩, .int .i64 0, .int .i64 0, .slice none 0 0, .slice none 0 0] 30)
 have W1 := Lib.hid hw1
 have B0 := Lib.hid b0
 have B1 := Lib.hid b1
 have B2 := Lib.hid b2
 have C1 := Lib.hid c1
 clear hw1 b0 b1 b2 c1
 go_enter Tryz.func43, Tryz.ntmps43
 go_upto_region 1 with fail
 rw [← W1.out]
 obtain ⟨g0, h0⟩ : ∃ g, w.heap.size = g := ⟨_, rfl⟩
 obtain ⟨g1, h1⟩ : ∃ g, g0 + 1 = g := ⟨_, rfl⟩
 obtain ⟨g2, h2⟩ : ∃ g, g1 + 1 = g := ⟨_, rfl⟩
 rw [show w.heap.size + 2 = w.heap.size + 1 + 1 from rfl] at B2
 rw [h0] at B0 B1 B2 ⊢
 rw [h1] at B1 B2 ⊢
 rw [h2] at B2 ⊢
 have NE : Hid (g0 ≠ g1 ∧ g0 ≠ g2 ∧ g1 ≠ g2 ∧ w.heap.size ≤ g0 ∧ w.heap.size ≤ g1 ∧ w.heap.size ≤ g2) := Lib.hid (by omega)
 clear h0 h1 h2 W1; go_wp2_with fail
 refine (l10one_any w1 1 1 ⟨#[102]⟩ none 0 0).mono ?_
 rintro r w2 ⟨rfl, hc⟩
 have C2 := Lib.hid hc
 clear hc
 obtain ⟨w3, hw3, c3, b3⟩ := news1 w2 (.cells #[.int .i64 1, .int .i64 1, .int .i64 1] 72)
 have W3 := Lib.hid hw3
 have RS : Hid (RdK spanTy w3 (some ⟨w2.heap.size, 0, none⟩) 1 [(1, 1, 1)]) := Lib.hid ⟨rfl, fun j v hj => ⟨_, rfl, by rw [add_zero_lit, cell_of b3 j]; simpa [RowTy.flat, spanTy] using hj⟩⟩
 have C3 := Lib.hid (C2.out.trans c3)
 clear hw3 c3 b3; go_wp2_with fail
 rw [← W3.out]
 obtain ⟨gs, hgs⟩ : ∃ g, w2.heap.size = g := ⟨_, rfl⟩
 have NG : Hid (gs ≠ g0 ∧ gs ≠ g1 ∧ gs ≠ g2) := Lib.hid (by have a := lt_of_heap B0.out; have b := lt_of_heap B1.out; have d := lt_of_heap B2.out; have := C2.out.size; omega)
 rw [hgs] at RS ⊢
 clear hgs W3 C2
 refine (l10one_any w3 2 1 ⟨#[102]⟩ (some ⟨gs, 0, none⟩) 1 1).mono ?_
 rintro r w4 ⟨rfl, hc⟩
 have RS4 := Lib.hid (RS.out.chg hc (by simp))
 have C4 := Lib.hid (C3.out.trans hc)
 clear hc C3 RS; go_wp2_with fail
 refine (l10one_any w4 3 1 ⟨#[102, 47, 103]⟩ none 0 0).mono ?_
 rintro r w5 ⟨rfl, hc⟩
 have RS5 := Lib.hid (RS4.out.chg hc (by simp))
 have C5 := Lib.hid (C4.out.trans hc)
 clear hc C4 RS4
 have q0 := C5.out.at_ B0.out (by simp)
 have q1 := C5.out.at_ B1.out (by simp)
 have q2 := C5.out.at_ B2.out (by simp)
 have z00 := cell_of q0 0
 have f00 := free_of q0 0
 have z01 := cell_of q0 1
 have f01 := free_of q0 1
 have z02 := cell_of q0 2
 have f02 := free_of q0 2
 have z03 := cell_of q0 3
 have f03 := free_of q0 3
 have z04 := cell_of q0 4
 have f04 := free_of q0 4
 have z05 := cell_of q0 5
 have f05 := free_of q0 5
 have z06 := cell_of q0 6
 have f06 := free_of q0 6
 simp only [List.getElem?_toArray, List.getElem?_cons_succ, List.getElem?_cons_zero] at z00 z01 z02 z03 z04 z05 z06
 have z10 := cell_of q1 0
 have f10 := free_of q1 0
 have z11 := cell_of q1 1
 have f11 := free_of q1 1
 have z12 := cell_of q1 2
 have f12 := free_of q1 2
 have z13 := cell_of q1 3
 have f13 := free_of q1 3
 have z14 := cell_of q1 4
 have f14 := free_of q1 4
 have z15 := cell_of q1 5
 have f15 := free_of q1 5
 have z16 := cell_of q1 6
 have f16 := free_of q1 6
 simp only [List.getElem?_toArray, List.getElem?_cons_succ, List.getElem?_cons_zero] at z10 z11 z12 z13 z14 z15 z16
 have z20 := cell_of q2 0
 have f20 := free_of q2 0
 have z21 := cell_of q2 1
 have f21 := free_of q2 1
 have z22 := cell_of q2 2
 have f22 := free_of q2 2
 have z23 := cell_of q2 3
 have f23 := free_of q2 3
 have z24 := cell_of q2 4
 have f24 := free_of q2 4
 have z25 := cell_of q2 5
 have f25 := free_of q2 5
 have z26 := cell_of q2 6
 have f26 := free_of q2 6
 simp only [List.getElem?_toArray, List.getElem?_cons_succ, List.getElem?_cons_zero] at z20 z21 z22 z23 z24 z25 z26
 have n01 : ¬ g0 = g1 := NE.out.1
 have n02 : ¬ g0 = g2 := NE.out.2.1
 have n12 : ¬ g1 = g2 := NE.out.2.2.1
 have n10 : ¬ g1 = g0 := fun e => n01 e.symm
 have n20 : ¬ g2 = g0 := fun e => n02 e.symm
 have n21 : ¬ g2 = g1 := fun e => n12 e.symm
 have Q0 := Lib.hid q0
 have Q1 := Lib.hid q1
 have Q2 := Lib.hid q2
 clear q0 q1 q2; go_wp2; clear z00 f00 z01 f01 z02 f02 z03 f03 z04 f04 z05 f05 z06 f06 z10 f10 z11 f11 z12 f12 z13 f13 z14 f14 z15 f15 z16 f16 z20 f20 z21 f21 z22 f22 z23 f23 z24 f24 z25 f25 z26 f26
 have A0 := set7_heap (.int .i64 1) (.int .i64 1) (.string ⟨#[102]⟩) (.int .i64 1) (.int .i64 0) (.slice none 0 0) (.slice none 0 0) Q0.out
 have HA0 := Chg.set7 (Chg.refl [g0] w5) (g := g0) (.inl (by simp)) 0 (.int .i64 1) (.int .i64 1) (.string ⟨#[102]⟩) (.int .i64 1) (.int .i64 0) (.slice none 0 0) (.slice none 0 0)
 have A1 := HA0.at_ Q1.out (by simpa using n10)
 have A2 := HA0.at_ Q2.out (by simpa using n20)
 have D1 := set7_heap (.int .i64 2) (.int .i64 1) (.string ⟨#[102]⟩) (.int .i64 1) (.int .i64 0) (.slice none 0 0) (.slice (some ⟨gs, 0, none⟩) 1 1) A1
 have HD1 := Chg.set7 (Chg.refl [g1] (((((((w5.setCell ⟨g0, 0, none⟩ (.int .i64 1)).setCell ⟨g0, 1, none⟩ (.int .i64 1)).setCell ⟨g0, 2, none⟩ (.string ⟨#[102]⟩)).setCell ⟨g0, 3, none⟩ (.int .i64 1)).setCell ⟨g0, 4, none⟩ (.int .i64 0)).setCell ⟨g0, 5, none⟩ (.slice none 0 0)).setCell ⟨g0, 6, none⟩ (.slice none 0 0))) (g := g1) (.inl (by simp)) 0 (.int .i64 2) (.int .i64 1) (.string ⟨#[102]⟩) (.int .i64 1) (.int .i64 0) (.slice none 0 0) (.slice (some ⟨gs, 0, none⟩) 1 1)
 have D0 := HD1.at_ A0 (by simpa using n01)
 have D2 := HD1.at_ A2 (by simpa using n21)
 have E2 := set7_heap (.int .i64 3) (.int .i64 1) (.string ⟨#[102, 47, 103]⟩) (.int .i64 1) (.int .i64 0) (.slice none 0 0) (.slice none 0 0) D2
 have HE2 := Chg.set7 (Chg.refl [g2] ((((((((((((((w5.setCell ⟨g0, 0, none⟩ (.int .i64 1)).setCell ⟨g0, 1, none⟩ (.int .i64 1)).setCell ⟨g0, 2, none⟩ (.string ⟨#[102]⟩)).setCell ⟨g0, 3, none⟩ (.int .i64 1)).setCell ⟨g0, 4, none⟩ (.int .i64 0)).setCell ⟨g0, 5, none⟩ (.slice none 0 0)).setCell ⟨g0, 6, none⟩ (.slice none 0 0)).setCell ⟨g1, 0, none⟩ (.int .i64 2)).setCell ⟨g1, 1, none⟩ (.int .i64 1)).setCell ⟨g1, 2, none⟩ (.string ⟨#[102]⟩)).setCell ⟨g1, 3, none⟩ (.int .i64 1)).setCell ⟨g1, 4, none⟩ (.int .i64 0)).setCell ⟨g1, 5, none⟩ (.slice none 0 0)).setCell ⟨g1, 6, none⟩ (.slice (some ⟨gs, 0, none⟩) 1 1))) (g := g2) (.inl (by simp)) 0 (.int .i64 3) (.int .i64 1) (.string ⟨#[102, 47, 103]⟩) (.int .i64 1) (.int .i64 0) (.slice none 0 0) (.slice none 0 0)
 have E0 := HE2.at_ D0 (by simpa using n02)
 have E1 := HE2.at_ D1 (by simpa using n12)
 have CF := ((HA0.mono (S' := [g0, g1, g2]) (by simp)).trans (HD1.mono (by simp))).trans (HE2.mono (by simp))
 clear HA0 A0 A1 A2 D1 HD1 D0 D2 HE2
 simp only [Nat.zero_add] at *
 generalize (((((((((((((((((((((w5.setCell ⟨g0, 0, none⟩ (.int .i64 1)).setCell ⟨g0, 1, none⟩ (.int .i64 1)).setCell ⟨g0, 2, none⟩ (.string ⟨#[102]⟩)).setCell ⟨g0, 3, none⟩ (.int .i64 1)).setCell ⟨g0, 4, none⟩ (.int .i64 0)).setCell ⟨g0, 5, none⟩ (.slice none 0 0)).setCell ⟨g0, 6, none⟩ (.slice none 0 0)).setCell ⟨g1, 0, none⟩ (.int .i64 2)).setCell ⟨g1, 1, none⟩ (.int .i64 1)).setCell ⟨g1, 2, none⟩ (.string ⟨#[102]⟩)).setCell ⟨g1, 3, none⟩ (.int .i64 1)).setCell ⟨g1, 4, none⟩ (.int .i64 0)).setCell ⟨g1, 5, none⟩ (.slice none 0 0)).setCell ⟨g1, 6, none⟩ (.slice (some ⟨gs, 0, none⟩) 1 1)).setCell ⟨g2, 0, none⟩ (.int .i64 3)).setCell ⟨g2, 1, none⟩ (.int .i64 1)).setCell ⟨g2, 2, none⟩ (.string ⟨#[102, 47, 103]⟩)).setCell ⟨g2, 3, none⟩ (.int .i64 1)).setCell ⟨g2, 4, none⟩ (.int .i64 0)).setCell ⟨g2, 5, none⟩ (.slice none 0 0)).setCell ⟨g2, 6, none⟩ (.slice none 0 0)) = w6 at *
 have y00 := cell_of E0 0
 have y01 := cell_of E0 1
 have y02 := cell_of E0 2
 have y03 := cell_of E0 3
 have y04 := cell_of E0 4
 have y05 := cell_of E0 5
 have y06 := cell_of E0 6
 have y10 := cell_of E1 0
 have y11 := cell_of E1 1
 have y12 := cell_of E1 2
 have y13 := cell_of E1 3
 have y14 := cell_of E1 4
 have y15 := cell_of E1 5
 have y16 := cell_of E1 6
 have y20 := cell_of E2 0
 have y21 := cell_of E2 1
 have y22 := cell_of E2 2
 have y23 := cell_of E2 3
 have y24 := cell_of E2 4
 have y25 := cell_of E2 5
 have y26 := cell_of E2 6
 simp only [List.getElem?_toArray, List.getElem?_cons_succ, List.getElem?_cons_zero] at y00 y01 y02 y03 y04 y05 y06 y10 y11 y12 y13 y14 y15 y16 y20 y21 y22 y23 y24 y25 y26
 refine bodyPost_ret (v := .tuple #[.agg #[.int .i64 1, .int .i64 1, .string ⟨#[102]⟩, .int .i64 1, .int .i64 0, .slice none 0 0, .slice none 0 0], .agg #[.int .i64 2, .int .i64 1, .string ⟨#[102]⟩, .int .i64 1, .int .i64 0, .slice none 0 0, .slice (some ⟨gs, 0, none⟩) 1 1], .agg #[.int .i64 3, .int .i64 1, .string ⟨#[102, 47, 103]⟩, .int .i64 1, .int .i64 0, .slice none 0 0, .slice none 0 0]]) (by simp [results, Tryz.results43, go_sem, y00, y01, y02, y03, y04, y05, y06, y10, y11, y12, y13, y14, y15, y16, y20, y21, y22, y23, y24, y25, y26]) rfl ?_
 have RS6 := RS5.out.chg CF (fun a ha => by cases ha; have := NG.out; simp; omega)
 exact ⟨⟨1, 1, ⟨#[102]⟩, 1, 0, none, 0, 0, none, 0, 0⟩, ⟨2, 1, ⟨#[102]⟩, 1, 0, none, 0, 0, some ⟨gs, 0, none⟩, 1, 1⟩, ⟨3, 1, ⟨#[102, 47, 103]⟩, 1, 0, none, 0, 0, none, 0, 0⟩, rfl, ⟨rfl, rfl, rfl, rfl, rfl, rfl, rfl, Bs.nil _ _, RdK.nil _ _⟩, ⟨rfl, rfl, rfl, rfl, rfl, rfl, rfl, Bs.nil _ _, RS6⟩, ⟨rfl, rfl, rfl, rfl, rfl, rfl, rfl, Bs.nil _ _, RdK.nil _ _⟩, (C1.out.trans C5.out).trans' CF (fun z hz => .inr (by have := NE.out; simp at hz; omega))⟩
end
section
open Go.RowKit
set_option maxRecDepth 100000 in
set_option maxHeartbeats 2000000 in
theorem sametexts_any (w : World) (A B : Option Addr) (c d : Nat) (xs ys : List (List UInt8)) (h : RdK textTy w A xs.length xs) (h' : RdK textTy w B ys.length ys) (hx : xs.length ≤ 140737488351232) (hy : ys.length ≤ 140737488351232) :
  Calls Tryz.prog 27 #[.slice A xs.length c, .slice B ys.length d] w fun e w' => e = .returned (.bool (xs == ys)) ∧ Chg [] w w' := by
 have HA := Lib.hid h
 have HB := Lib.hid h'
 clear h h'
 obtain ⟨R, hR⟩ : ∃ R, (xs == ys) = R := ⟨_, rfl⟩
 rw [hR]
 have HR := Lib.hid hR
 clear hR
 by_cases hne : xs.length = ys.length
 ·
  have hb : ((xs.length : Int) == (ys.length : Int)) = true := by simp; omega
  have HN := Lib.hid hne
  clear hne
  go_enter Tryz.func27, Tryz.ntmps27
  go_wp2
  go_loopw [5] (fun v5 wr => ∃ k : Nat, k ≤ xs.length ∧ v5 = .int .i64 (k : Int) ∧ Hid (xs.take k = ys.take k ∧ Chg [] w wr)) (fun v5 _ => xs.length - (RowKit.intOf v5).toNat)
  case atStart => exact ⟨0, Nat.zero_le _, rfl, rfl, Chg.refl _ _⟩
  case round =>
   obtain ⟨k, hk, rfl, HI⟩ := hrel
   have k1 : IntKind.i64.wrap ((k : Int) + 1) = (k : Int) + 1 := IntWalk.i64_in _ (by omega)
   have i0 : (0 : Int) ≤ (k : Int) := by omega
   by_cases hlt : k < xs.length
   ·
    have hlt2 : k < ys.length := by have := HN.out; omega
    have i1 : (k : Int) < (xs.length : Int) := by omega
    have i2 : (k : Int) < (ys.length : Int) := by omega
    obtain ⟨g, o, eA, _⟩ := HA.out.line (by omega)
    subst eA
    obtain ⟨g2, o2, eB, _⟩ := HB.out.line (by omega)
    subst eB
    have ex := List.getElem?_eq_getElem hlt
    have z := textCells (HA.out.chg HI.out.2 (by simp)) ex
    have ey := List.getElem?_eq_getElem hlt2
    have z2 := textCells (HB.out.chg HI.out.2 (by simp)) ey
    generalize xs[k] = x at *
    generalize ys[k] = y at *
    have HE := Lib.hid (And.intro ex ey)
    clear ex ey
    by_cases hxy : x = y
    ·
     subst hxy
     have h1 : (x == x) = true := by simp
     go_wp2
     go_quiet (fail)
     go_wp2
     refine ⟨⟨k + 1, by omega, by simp, Lib.hid ⟨?_, HI.out.2.drewN _⟩⟩, by simp [RowKit.intOf]; omega⟩
     rw [List.take_add_one, List.take_add_one, HI.out.1, HE.out.1, HE.out.2]
    ·
     have h1 : (x == y) = false := by simpa using hxy
     have h2 := str_ne hxy
     have HF := Lib.hid (show R = false by
      rw [← HR.out, beq_eq_false_iff_ne]
      intro e
      have h3 := HE.out.1
      rw [e, HE.out.2] at h3
      exact hxy (Option.some.inj h3).symm)
     go_wp2
     go_quiet (fail)
     go_wp2; go_ret
     exact ⟨congrArg (fun v => Ending.returned (Value.bool v)) HF.out.symm, HI.out.2.drewN _⟩
   ·
    obtain rfl : k = xs.length := by omega
    have HF := Lib.hid (show R = true by
     have h3 := HI.out.1
     rw [List.take_length, HN.out, List.take_length] at h3
     rw [← HR.out, h3]
     simp)
    have i1 : ¬ ((xs.length : Int) < (xs.length : Int)) := by omega
    go_wp2; go_ret
    exact ⟨congrArg (fun v => Ending.returned (Value.bool v)) HF.out.symm, HI.out.2⟩
 ·
  have hb : ((xs.length : Int) == (ys.length : Int)) = false := by simp; omega
  have hb2 : ¬ ((xs.length : Int) = (ys.length : Int)) := by omega
  have HF := Lib.hid (show R = false by
   rw [← HR.out, beq_eq_false_iff_ne]
   intro e
   exact hne (by rw [e]))
  go_enter Tryz.func27, Tryz.ntmps27
  go_wp2; go_ret
  exact ⟨congrArg (fun v => Ending.returned (Value.bool v)) HF.out.symm, Chg.refl _ _⟩
end
section
open Go.RowKit Go.Lib


theorem joinS4 {α β γ δ : Type} {F R : α → β → γ → δ → Prop} {G : Prop} (h1 : (∀ a b c d, F a b c d → R a b c d) → G) (h2 : ∀ a b c d, F a b c d → R a b c d) : G := h1 h2
theorem joinS5 {α β γ δ ε : Type} {F R : α → β → γ → δ → ε → Prop} {G : Prop} (h1 : (∀ a b c d e, F a b c d e → R a b c d e) → G) (h2 : ∀ a b c d e, F a b c d e → R a b c d e) : G := h1 h2
theorem rd_twoS {w : World} {g : Nat} {x y : EvT} (h : w.heap[g]? = some (.cells #[.int .i64 x.n, .int .i64 x.s, .string x.p, .int .i64 x.k, .int .i64 x.m, .slice x.A x.l x.c, .slice x.B x.bl x.bc, .int .i64 y.n, .int .i64 y.s, .string y.p, .int .i64 y.k, .int .i64 y.m, .slice y.A y.l y.c, .slice y.B y.bl y.bc] 30)) : RdK evTy w (some ⟨g, 0, none⟩) 2 [x, y] :=
 ⟨rfl, fun j v hj => ⟨_, rfl, by rw [add_zero_lit, cell_of h j]; simpa [RowTy.flat, evTy] using hj⟩⟩
set_option maxRecDepth 100000 in
set_option maxHeartbeats 32000000 in
theorem l10awake_run (w : World) : Calls Tryz.prog 8 #[] w fun e w' => e = .returned (.bool true) ∧ Chg [] w w' := by

 have C0 := Lib.hid (Chg.refl [] w)
 go_enter Tryz.func8, Tryz.ntmps8
 go_wp2_with fail
 refine (l10three_any w).mono ?_
 rintro r w1 ⟨X, Y, Z, rfl, ex, ey, ez, hc⟩
 obtain ⟨w2, hw2, c2, b1, b2, b3⟩ := news3 w1 (.cells #[.int .i64 X.n, .int .i64 X.s, .string X.p, .int .i64 X.k, .int .i64 X.m, .slice X.A X.l X.c, .slice X.B X.bl X.bc] 30) (.cells #[.int .i64 Y.n, .int .i64 Y.s, .string Y.p, .int .i64 Y.k, .int .i64 Y.m, .slice Y.A Y.l Y.c, .slice Y.B Y.bl Y.bc] 30) (.cells #[.int .i64 Z.n, .int .i64 Z.s, .string Z.p, .int .i64 Z.k, .int .i64 Z.m, .slice Z.A Z.l Z.c, .slice Z.B Z.bl Z.bc] 30)
 have W2 := Lib.hid hw2
 have HX := Lib.hid (fun (w' : World) (k : Chg [] w2 w') => ex.chg (c2.trans k))
 have HY := Lib.hid (fun (w' : World) (k : Chg [] w2 w') => ey.chg (c2.trans k))
 have HZ := Lib.hid (fun (w' : World) (k : Chg [] w2 w') => ez.chg (c2.trans k))
 have C2 := Lib.hid (hc.trans c2)
 have B1 := Lib.hid b1
 have B2 := Lib.hid b2
 have B3 := Lib.hid b3
 clear hw2 c2 b1 b2 b3 hc ex ey ez
 go_upto_region 2 with fail
 rw [← W2.out]
 obtain ⟨g1, h1⟩ : ∃ g, w1.heap.size = g := ⟨_, rfl⟩
 obtain ⟨g2, h2⟩ : ∃ g, g1 + 1 = g := ⟨_, rfl⟩
 obtain ⟨g3, h3⟩ : ∃ g, g2 + 1 = g := ⟨_, rfl⟩
 rw [show w1.heap.size + 2 = w1.heap.size + 1 + 1 from rfl] at B3
 rw [h1] at B1 B2 B3 ⊢
 rw [h2] at B2 B3 ⊢
 rw [h3] at B3 ⊢
 clear h1 h2 h3 W2
 have HB1 : Hid (∀ w', Chg [] w2 w' → w'.cell? ⟨g1, 0, none⟩ = some (.int .i64 X.n) ∧ w'.cell? ⟨g1, 1, none⟩ = some (.int .i64 X.s) ∧ w'.cell? ⟨g1, 2, none⟩ = some (.string X.p) ∧ w'.cell? ⟨g1, 3, none⟩ = some (.int .i64 X.k) ∧ w'.cell? ⟨g1, 4, none⟩ = some (.int .i64 X.m) ∧ w'.cell? ⟨g1, 5, none⟩ = some (.slice X.A X.l X.c) ∧ w'.cell? ⟨g1, 6, none⟩ = some (.slice X.B X.bl X.bc)) := Lib.hid (fun w' hc => by
  have q := hc.at_ B1.out (by simp)
  exact ⟨cell_of q 0, cell_of q 1, cell_of q 2, cell_of q 3, cell_of q 4, cell_of q 5, cell_of q 6⟩)
 have HB2 : Hid (∀ w', Chg [] w2 w' → w'.cell? ⟨g2, 0, none⟩ = some (.int .i64 Y.n) ∧ w'.cell? ⟨g2, 1, none⟩ = some (.int .i64 Y.s) ∧ w'.cell? ⟨g2, 2, none⟩ = some (.string Y.p) ∧ w'.cell? ⟨g2, 3, none⟩ = some (.int .i64 Y.k) ∧ w'.cell? ⟨g2, 4, none⟩ = some (.int .i64 Y.m) ∧ w'.cell? ⟨g2, 5, none⟩ = some (.slice Y.A Y.l Y.c) ∧ w'.cell? ⟨g2, 6, none⟩ = some (.slice Y.B Y.bl Y.bc)) := Lib.hid (fun w' hc => by
  have q := hc.at_ B2.out (by simp)
  exact ⟨cell_of q 0, cell_of q 1, cell_of q 2, cell_of q 3, cell_of q 4, cell_of q 5, cell_of q 6⟩)
 have HB3 : Hid (∀ w', Chg [] w2 w' → w'.cell? ⟨g3, 0, none⟩ = some (.int .i64 Z.n) ∧ w'.cell? ⟨g3, 1, none⟩ = some (.int .i64 Z.s) ∧ w'.cell? ⟨g3, 2, none⟩ = some (.string Z.p) ∧ w'.cell? ⟨g3, 3, none⟩ = some (.int .i64 Z.k) ∧ w'.cell? ⟨g3, 4, none⟩ = some (.int .i64 Z.m) ∧ w'.cell? ⟨g3, 5, none⟩ = some (.slice Z.A Z.l Z.c) ∧ w'.cell? ⟨g3, 6, none⟩ = some (.slice Z.B Z.bl Z.bc)) := Lib.hid (fun w' hc => by
  have q := hc.at_ B3.out (by simp)
  exact ⟨cell_of q 0, cell_of q 1, cell_of q 2, cell_of q 3, cell_of q 4, cell_of q 5, cell_of q 6⟩)
 have D := Lib.hid (Chg.refl [] w2)
 clear B1 B2 B3
 obtain ⟨z0, z1, z2, z3, z4, z5, z6⟩ := HB3.out _ D.out
 have PU := stput_any w2 none 0 [] [] Z s3E (RdK.nil _ _) ⟨by simp, by simp [maxLen]⟩ (.inl rfl) (EvsR.nil _) (by simp) (by simp) (HZ.out _ D.out) (s_sm _ (by simp))
 rw [s_put0] at PU
 simp only [List.length_nil] at PU
 have PU2 := Lib.hid PU
 clear PU; go_wp2_with fail; clear z0 z1 z2 z3 z4 z5 z6
 refine PU2.out.mono ?_
 rintro r w3 ⟨Aa, ca, za, rfl, he, hc⟩
 clear PU2
 replace D := Lib.hid (D.out.trans hc)
 have Ra := Lib.hid he.row.reads
 have Ea := Lib.hid he.all.ev
 have Pa := Lib.hid he.row.cap
 have Fa : Hid (∀ a, Aa = some a → a.block < w3.heap.size) := Lib.hid (fun a ha => (he.rowAt a ha).2)
 clear hc he
 obtain ⟨z0, z1, z2, z3, z4, z5, z6⟩ := HB1.out _ D.out
 have PU := stput_any w3 Aa ca za [s3E] X s1E Ra.out Pa.out (.inr Fa.out) Ea.out (by have a := Ea.out.1; simp at a; omega) s_sms (HX.out _ D.out) (s_sm _ (by simp))
 rw [s_put1] at PU
 have PU2 := Lib.hid PU
 clear PU; go_wp2_with fail; clear z0 z1 z2 z3 z4 z5 z6
 refine PU2.out.mono ?_
 rintro r w4 ⟨Ab, cb, zb, rfl, he, hc⟩
 clear PU2
 replace D := Lib.hid (D.out.trans hc)
 replace Ra := Lib.hid (Ra.out.chg hc (by simp))
 replace Ea := Lib.hid (Ea.out.chg hc)
 replace Fa := Lib.hid (fun a ha => Nat.lt_of_lt_of_le (Fa.out a ha) hc.size)
 have Rb := Lib.hid he.row.reads
 have Eb := Lib.hid he.all.ev
 have Pb := Lib.hid he.row.cap
 have Fb : Hid (∀ a, Ab = some a → a.block < w4.heap.size) := Lib.hid (fun a ha => (he.rowAt a ha).2)
 clear hc he; clear Ra Ea Pa Fa
 obtain ⟨z0, z1, z2, z3, z4, z5, z6⟩ := HB2.out _ D.out
 have PU := stput_any w4 Ab cb zb [s1E, s3E] Y s2E Rb.out Pb.out (.inr Fb.out) Eb.out (by have a := Eb.out.1; simp at a; omega) s_sms (HY.out _ D.out) (s_sm _ (by simp))
 rw [s_put2] at PU
 have PU2 := Lib.hid PU
 clear PU; go_wp2_with fail; clear z0 z1 z2 z3 z4 z5 z6
 refine PU2.out.mono ?_
 rintro r w5 ⟨Ac, cc, zc, rfl, he, hc⟩
 clear PU2
 replace D := Lib.hid (D.out.trans hc)
 replace Rb := Lib.hid (Rb.out.chg hc (by simp))
 replace Eb := Lib.hid (Eb.out.chg hc)
 replace Fb := Lib.hid (fun a ha => Nat.lt_of_lt_of_le (Fb.out a ha) hc.size)
 have Rc := Lib.hid he.row.reads
 have Ec := Lib.hid he.all.ev
 have Pc := Lib.hid he.row.cap
 have Fc : Hid (∀ a, Ac = some a → a.block < w5.heap.size) := Lib.hid (fun a ha => (he.rowAt a ha).2)
 clear hc he
 have KN := stknownf_any w5 Ac cc zc [s2E, s3E] Rc.out Pc.out.1 (.inr Fc.out) Ec.out (by have a := Ec.out.1; simp at a; omega) (fun e he => (s_sms (by simp) e he).1)
 rw [s_known] at KN
 have KN2 := Lib.hid KN
 clear KN; go_wp2_with fail
 refine KN2.out.mono ?_
 rintro r w6 ⟨Ak, ck, rfl, ho, hc⟩
 clear KN2
 replace D := Lib.hid (D.out.trans hc)
 replace Rb := Lib.hid (Rb.out.chg hc (by simp))
 replace Eb := Lib.hid (Eb.out.chg hc)
 replace Fb := Lib.hid (fun a ha => Nat.lt_of_lt_of_le (Fb.out a ha) hc.size)
 replace Rc := Lib.hid (Rc.out.chg hc (by simp))
 replace Ec := Lib.hid (Ec.out.chg hc)
 replace Fc := Lib.hid (fun a ha => Nat.lt_of_lt_of_le (Fc.out a ha) hc.size)
 have RK := Lib.hid ho.reads
 clear ho hc
 have LB : Hid (zb.length = 2) := Lib.hid Eb.out.1
 have LC : Hid (zc.length = 2) := Lib.hid Ec.out.1
 have PT : Hid (∀ w', Chg [] w6 w' → Calls Tryz.prog 28 #[.slice Ab zb.length cb] w' fun r w2 => ∃ (B : Option Addr) (d : Nat), r = .returned (.slice B 2 d) ∧ RdK textTy w2 B 2 [[102], [102, 47, 103]] ∧ Chg [] w' w2) := Lib.hid (fun w' hc => by
  have q := stpaths_any w' Ab cb zb [s1E, s3E] (Rb.out.chg hc (by simp)) Pb.out.1 (.inr (fun a ha => Nat.lt_of_lt_of_le (Fb.out a ha) hc.size)) (Eb.out.chg hc) (by have := LB.out; omega) (fun e he => (s_sms (by simp) e he).1)
  rw [s_paths] at q
  exact q)
 have SHF : Hid (∀ w', Chg [] w6 w' → Calls Tryz.prog 21 #[.slice Ac zc.length cc, .string ⟨#[102]⟩] w' fun r w2 => ∃ (A' : Option Addr) (c' : Nat) (zs : List EvT), r = .returned (.slice A' zs.length c') ∧ EsF w2 w'.heap.size w2.heap.size A' c' zs [s2E] ∧ Chg [] w' w2) := Lib.hid (fun w' hc => by
  have q := stshelf_any w' Ac cc zc [s2E, s3E] [102] (Rc.out.chg hc (by simp)) (Ec.out.chg hc) (by have := LC.out; omega) s_sms
  rw [s_shelf] at q
  exact q)
 have NEA : Hid (∀ w', Chg [] w6 w' → Calls Tryz.prog 22 #[.slice Ac zc.length cc, .string ⟨#[102, 47, 103]⟩] w' fun r w2 => ∃ (A' : Option Addr) (c' : Nat) (zs : List EvT), r = .returned (.slice A' zs.length c') ∧ EsF w2 w'.heap.size w2.heap.size A' c' zs [s2E, s3E] ∧ Chg [] w' w2) := Lib.hid (fun w' hc => by
  have q := stnear_any w' Ac cc zc [s2E, s3E] [102, 47, 103] (Rc.out.chg hc (by simp)) (Ec.out.chg hc) (by have := LC.out; omega) (by simp) s_sms
  rw [s_near] at q
  exact q)
 go_upto_region 6 with fail
 refine wp_region_held_drew (S := fun w' => Chg [] w6 w') (by kernel_rfl) (Chg.refl [] w6).drew (fun hHeld => ?_)
 have C := Lib.hid hHeld
 clear hHeld
 obtain ⟨wc, hwc⟩ : ∃ wc, w6.drew = wc := ⟨_, rfl⟩
 rw [hwc] at C ⊢
 clear hwc
 have hHeld := C.out
 have C6 := C
 refine' joinS4 (F := fun (px : Nat) (B : Option Addr) (d : Nat) (wc : World) => Hid (Chg [] w6 wc)) (R := _) (fun JOIN => ?leaf) ?rest
 case leaf =>
  refine sy 0 38 rfl rfl ?_; try simp only [Act.put, sA, s0, s1]
  refine sy 1 39 rfl rfl ?_; try simp only [Act.put, sA, s0, s1]
  refine sy 2 40 rfl rfl ?_; try simp only [Act.put, sA, s0, s1]
  refine sy 3 41 rfl rfl ?_; try simp only [Act.put, sA, s0, s1]
  refine sy 4 42 rfl rfl ?_; try simp only [Act.put, sA, s0, s1]
  refine sy 5 43 rfl rfl ?_; try simp only [Act.put, sA, s0, s1]
  refine sy 6 44 rfl rfl ?_; try simp only [Act.put, sA, s0, s1]
  refine sy 7 45 rfl rfl ?_; try simp only [Act.put, sA, s0, s1]
  refine wpAnyH_ready (rs := [8, 9]) (by kernel_rfl) (by simp) ?_
  refine AllReadyH.cons rfl (fun K hK => ?_) (AllReadyH.cons rfl (fun K hK => ?_) AllReadyH.nil)
  ·
   skip; replace hK := Lib.hid hK; go_simp
   refine (PT.out _ C.out).mono ?_
   rintro r wc ⟨B, d, rfl, hr, hc⟩
   have RB := Lib.hid hr
   clear hr
   try replace XR := Lib.hid (XR.out.chg hc (by simp))
   replace C := Lib.hid (C.out.trans hc)
   clear hc
   refine hK.out _ _ C.out (fun hHeld => ?_)
   clear hK K; try simp only [Act.put, sA, s0, s1]
   refine wpAnyH_ready (rs := [9]) (by kernel_rfl) (by simp) ?_; refine AllReadyH.cons rfl (fun K hK => ?_) AllReadyH.nil; replace hK := Lib.hid hK; go_simp; skip
   obtain ⟨px, hp⟩ : ∃ p, wc.heap.size = p := ⟨_, rfl⟩
   obtain ⟨wc, hw, hcn, hb⟩ := news1 wc (.cells #[.string ⟨#[102]⟩, .string ⟨#[102, 47, 103]⟩] 9)
   rw [← hw, hp]
   rw [hp] at hb
   have XR : Hid (RdK textTy wc (some ⟨px, 0, none⟩) 2 [[102], [102, 47, 103]]) := Lib.hid (rd_text (xs := [[102], [102, 47, 103]]) hb (by simp [maxLen]))
   try replace RB := Lib.hid (RB.out.chg hcn (by simp))
   replace C := Lib.hid (C.out.trans hcn)
   clear hw hcn hb hp
   refine hK.out _ _ C.out (fun hHeld => ?_)
   clear hK K; try simp only [Act.put, sA, s0, s1]
   refine wpAnyH_ready (rs := [10]) (by kernel_rfl) (by simp) ?_; refine AllReadyH.cons rfl (fun K hK => ?_) AllReadyH.nil; replace hK := Lib.hid hK; go_simp
   refine (sametexts_any wc B _ d 2 [[102], [102, 47, 103]] [[102], [102, 47, 103]] RB.out XR.out (by simp) (by simp)).mono ?_
   rintro r wc ⟨rfl, hc⟩
   rw [beq_self_eq_true]
   replace C := Lib.hid (C.out.trans hc)
   clear hc
   refine hK.out _ _ C.out (fun hHeld => ?_)
   clear hK K; try simp only [Act.put, sA, s0, s1]
   refine sy 11 49 rfl rfl ?_; try simp only [Act.put, sA, s0, s1]
   exact JOIN px B d wc C
  ·
   skip; replace hK := Lib.hid hK; go_simp; skip
   obtain ⟨px, hp⟩ : ∃ p, wc.heap.size = p := ⟨_, rfl⟩
   obtain ⟨wc, hw, hcn, hb⟩ := news1 wc (.cells #[.string ⟨#[102]⟩, .string ⟨#[102, 47, 103]⟩] 9)
   rw [← hw, hp]
   rw [hp] at hb
   have XR : Hid (RdK textTy wc (some ⟨px, 0, none⟩) 2 [[102], [102, 47, 103]]) := Lib.hid (rd_text (xs := [[102], [102, 47, 103]]) hb (by simp [maxLen]))
   try replace RB := Lib.hid (RB.out.chg hcn (by simp))
   replace C := Lib.hid (C.out.trans hcn)
   clear hw hcn hb hp
   refine hK.out _ _ C.out (fun hHeld => ?_)
   clear hK K; try simp only [Act.put, sA, s0, s1]
   refine wpAnyH_ready (rs := [8]) (by kernel_rfl) (by simp) ?_; refine AllReadyH.cons rfl (fun K hK => ?_) AllReadyH.nil; replace hK := Lib.hid hK; go_simp
   refine (PT.out _ C.out).mono ?_
   rintro r wc ⟨B, d, rfl, hr, hc⟩
   have RB := Lib.hid hr
   clear hr
   try replace XR := Lib.hid (XR.out.chg hc (by simp))
   replace C := Lib.hid (C.out.trans hc)
   clear hc
   refine hK.out _ _ C.out (fun hHeld => ?_)
   clear hK K; try simp only [Act.put, sA, s0, s1]
   refine wpAnyH_ready (rs := [10]) (by kernel_rfl) (by simp) ?_; refine AllReadyH.cons rfl (fun K hK => ?_) AllReadyH.nil; replace hK := Lib.hid hK; go_simp
   refine (sametexts_any wc B _ d 2 [[102], [102, 47, 103]] [[102], [102, 47, 103]] RB.out XR.out (by simp) (by simp)).mono ?_
   rintro r wc ⟨rfl, hc⟩
   rw [beq_self_eq_true]
   replace C := Lib.hid (C.out.trans hc)
   clear hc
   refine hK.out _ _ C.out (fun hHeld => ?_)
   clear hK K; try simp only [Act.put, sA, s0, s1]
   refine sy 11 49 rfl rfl ?_; try simp only [Act.put, sA, s0, s1]
   exact JOIN px B d wc C
 case rest =>
  intro px B d wc C
  clear C6 hHeld
  have hHeld := C.out
  refine' joinS5 (F := fun (p : Nat) (A : Option Addr) (c n : Nat) (wc : World) => Hid (Chg [] w6 wc)) (R := _) (fun JOIN => ?leaf) ?rest
  case leaf =>
   refine sy 12 50 rfl rfl ?_; try simp only [Act.put, sA, s0, s1]
   refine sy 13 51 rfl rfl ?_; try simp only [Act.put, sA, s0, s1]
   refine sy 14 52 rfl rfl ?_; try simp only [Act.put, sA, s0, s1]
   refine sy 15 53 rfl rfl ?_; try simp only [Act.put, sA, s0, s1]
   refine sy 16 54 rfl rfl ?_; try simp only [Act.put, sA, s0, s1]
   refine sy 17 55 rfl rfl ?_; try simp only [Act.put, sA, s0, s1]
   refine sy 19 57 rfl rfl ?_ (hy := by (intro w hSw; (try dsimp only at hSw); obtain ⟨q0, q1, q2, q3, q4, q5, q6⟩ := HB2.out _ (D.out.trans hSw); go_simp; try with_reducible rfl))
   try simp only [Act.put, sA, s0, s1]
   refine wpAnyH_ready (rs := [18, 20]) (by kernel_rfl) (by simp) ?_
   refine AllReadyH.cons rfl (fun K hK => ?_) (AllReadyH.cons rfl (fun K hK => ?_) AllReadyH.nil)
   ·
    skip; replace hK := Lib.hid hK; go_simp
    refine (SHF.out _ C.out).mono ?_
    rintro r wc ⟨A5, c5, z5, rfl, he, hc⟩
    have R5 := Lib.hid he.row.reads
    have E5 := Lib.hid he.all.ev
    clear he
    try replace XR := Lib.hid (XR.out.chg hc (by simp))
    try replace QX := Lib.hid (QX.out.chg hc)
    replace C := Lib.hid (C.out.trans hc)
    clear hc
    refine hK.out _ _ C.out (fun hHeld => ?_)
    clear hK K; try simp only [Act.put, sA, s0, s1]
    refine wpAnyH_ready (rs := [20]) (by kernel_rfl) (by simp) ?_; refine AllReadyH.cons rfl (fun K hK => ?_) AllReadyH.nil; replace hK := Lib.hid hK; go_simp; skip
    obtain ⟨py, hp⟩ : ∃ p, wc.heap.size = p := ⟨_, rfl⟩
    obtain ⟨wc, hw, hcn, hb⟩ := news1 wc (.cells #[.int .i64 Y.n, .int .i64 Y.s, .string Y.p, .int .i64 Y.k, .int .i64 Y.m, .slice Y.A Y.l Y.c, .slice Y.B Y.bl Y.bc] 30)
    rw [← hw, hp]
    rw [hp] at hb
    have XR := Lib.hid (rd_oneEc (X := Y) hb)
    have QX : Hid (EvsR wc [Y] [s2E]) := Lib.hid (by simpa using (EvsR.nil wc).snoc (HY.out wc (D.out.trans (C.out.trans hcn))))
    try replace R5 := Lib.hid (R5.out.chg hcn (by simp))
    try replace E5 := Lib.hid (E5.out.chg hcn)
    replace C := Lib.hid (C.out.trans hcn)
    clear hw hcn hb hp
    refine hK.out _ _ C.out (fun hHeld => ?_)
    clear hK K; try simp only [Act.put, sA, s0, s1]
    refine wpAnyH_ready (rs := [21]) (by kernel_rfl) (by simp) ?_; refine AllReadyH.cons rfl (fun K hK => ?_) AllReadyH.nil; replace hK := Lib.hid hK; go_simp
    refine (l10is_any wc A5 (some ⟨py, 0, none⟩) c5 1 z5 [Y] [s2E] [s2E] R5.out XR.out E5.out QX.out ⟨by have a := E5.out.1; simp at a; omega, by simp⟩ ⟨fun e he => by have := (s_sms (l := [s2E]) (by simp) e he).2; omega, fun e he => by have := (s_sms (l := [s2E]) (by simp) e he).2; omega⟩).mono ?_
    rintro r wc ⟨rfl, hc⟩
    rw [sameL_refl]
    replace C := Lib.hid (C.out.trans hc)
    clear hc
    refine hK.out _ _ C.out (fun hHeld => ?_)
    clear hK K; try simp only [Act.put, sA, s0, s1]
    refine sy 22 60 rfl rfl ?_; try simp only [Act.put, sA, s0, s1]
    obtain ⟨n5, hn5⟩ : ∃ n, z5.length = n := ⟨_, rfl⟩
    rw [hn5]
    exact JOIN py A5 c5 n5 wc C
   ·
    skip; replace hK := Lib.hid hK; go_simp; skip
    obtain ⟨py, hp⟩ : ∃ p, wc.heap.size = p := ⟨_, rfl⟩
    obtain ⟨wc, hw, hcn, hb⟩ := news1 wc (.cells #[.int .i64 Y.n, .int .i64 Y.s, .string Y.p, .int .i64 Y.k, .int .i64 Y.m, .slice Y.A Y.l Y.c, .slice Y.B Y.bl Y.bc] 30)
    rw [← hw, hp]
    rw [hp] at hb
    have XR := Lib.hid (rd_oneEc (X := Y) hb)
    have QX : Hid (EvsR wc [Y] [s2E]) := Lib.hid (by simpa using (EvsR.nil wc).snoc (HY.out wc (D.out.trans (C.out.trans hcn))))
    try replace R5 := Lib.hid (R5.out.chg hcn (by simp))
    try replace E5 := Lib.hid (E5.out.chg hcn)
    replace C := Lib.hid (C.out.trans hcn)
    clear hw hcn hb hp
    refine hK.out _ _ C.out (fun hHeld => ?_)
    clear hK K; try simp only [Act.put, sA, s0, s1]
    refine wpAnyH_ready (rs := [18]) (by kernel_rfl) (by simp) ?_; refine AllReadyH.cons rfl (fun K hK => ?_) AllReadyH.nil; replace hK := Lib.hid hK; go_simp
    refine (SHF.out _ C.out).mono ?_
    rintro r wc ⟨A5, c5, z5, rfl, he, hc⟩
    have R5 := Lib.hid he.row.reads
    have E5 := Lib.hid he.all.ev
    clear he
    try replace XR := Lib.hid (XR.out.chg hc (by simp))
    try replace QX := Lib.hid (QX.out.chg hc)
    replace C := Lib.hid (C.out.trans hc)
    clear hc
    refine hK.out _ _ C.out (fun hHeld => ?_)
    clear hK K; try simp only [Act.put, sA, s0, s1]
    refine wpAnyH_ready (rs := [21]) (by kernel_rfl) (by simp) ?_; refine AllReadyH.cons rfl (fun K hK => ?_) AllReadyH.nil; replace hK := Lib.hid hK; go_simp
    refine (l10is_any wc A5 (some ⟨py, 0, none⟩) c5 1 z5 [Y] [s2E] [s2E] R5.out XR.out E5.out QX.out ⟨by have a := E5.out.1; simp at a; omega, by simp⟩ ⟨fun e he => by have := (s_sms (l := [s2E]) (by simp) e he).2; omega, fun e he => by have := (s_sms (l := [s2E]) (by simp) e he).2; omega⟩).mono ?_
    rintro r wc ⟨rfl, hc⟩
    rw [sameL_refl]
    replace C := Lib.hid (C.out.trans hc)
    clear hc
    refine hK.out _ _ C.out (fun hHeld => ?_)
    clear hK K; try simp only [Act.put, sA, s0, s1]
    refine sy 22 60 rfl rfl ?_; try simp only [Act.put, sA, s0, s1]
    obtain ⟨n5, hn5⟩ : ∃ n, z5.length = n := ⟨_, rfl⟩
    rw [hn5]
    exact JOIN py A5 c5 n5 wc C
  case rest =>
   intro py A5 c5 n5 wc C
   clear hHeld
   have hHeld := C.out
   refine' joinS5 (F := fun (p : Nat) (A : Option Addr) (c n : Nat) (wc : World) => Hid (Chg [] w6 wc)) (R := _) (fun JOIN => ?leaf) ?rest
   case leaf =>
    refine sy 23 61 rfl rfl ?_; try simp only [Act.put, sA, s0, s1]
    refine sy 24 62 rfl rfl ?_; try simp only [Act.put, sA, s0, s1]
    refine sy 26 64 rfl rfl ?_ (hy := by (intro w hSw; (try dsimp only at hSw); obtain ⟨q0, q1, q2, q3, q4, q5, q6⟩ := HB2.out _ (D.out.trans hSw); go_simp; try with_reducible rfl))
    try simp only [Act.put, sA, s0, s1]
    refine sy 27 65 rfl rfl ?_ (hy := by (intro w hSw; (try dsimp only at hSw); obtain ⟨q0, q1, q2, q3, q4, q5, q6⟩ := HB3.out _ (D.out.trans hSw); go_simp; try with_reducible rfl))
    try simp only [Act.put, sA, s0, s1]
    refine wpAnyH_ready (rs := [25, 28]) (by kernel_rfl) (by simp) ?_
    refine AllReadyH.cons rfl (fun K hK => ?_) (AllReadyH.cons rfl (fun K hK => ?_) AllReadyH.nil)
    ·
     skip; replace hK := Lib.hid hK; go_simp
     refine (NEA.out _ C.out).mono ?_
     rintro r wc ⟨A7, c7, z7, rfl, he, hc⟩
     have R5 := Lib.hid he.row.reads
     have E5 := Lib.hid he.all.ev
     clear he
     try replace XR := Lib.hid (XR.out.chg hc (by simp))
     try replace QX := Lib.hid (QX.out.chg hc)
     replace C := Lib.hid (C.out.trans hc)
     clear hc
     refine hK.out _ _ C.out (fun hHeld => ?_)
     clear hK K; try simp only [Act.put, sA, s0, s1]
     refine wpAnyH_ready (rs := [28]) (by kernel_rfl) (by simp) ?_; refine AllReadyH.cons rfl (fun K hK => ?_) AllReadyH.nil; replace hK := Lib.hid hK; go_simp; skip
     obtain ⟨pz, hp⟩ : ∃ p, wc.heap.size = p := ⟨_, rfl⟩
     obtain ⟨wc, hw, hcn, hb⟩ := news1 wc (.cells #[.int .i64 Y.n, .int .i64 Y.s, .string Y.p, .int .i64 Y.k, .int .i64 Y.m, .slice Y.A Y.l Y.c, .slice Y.B Y.bl Y.bc, .int .i64 Z.n, .int .i64 Z.s, .string Z.p, .int .i64 Z.k, .int .i64 Z.m, .slice Z.A Z.l Z.c, .slice Z.B Z.bl Z.bc] 30)
     rw [← hw, hp]
     rw [hp] at hb
     have XR := Lib.hid (rd_twoS (x := Y) (y := Z) hb)
     have QX : Hid (EvsR wc [Y, Z] [s2E, s3E]) := Lib.hid (by simpa using ((EvsR.nil wc).snoc (HY.out wc (D.out.trans (C.out.trans hcn)))).snoc (HZ.out wc (D.out.trans (C.out.trans hcn))))
     try replace R5 := Lib.hid (R5.out.chg hcn (by simp))
     try replace E5 := Lib.hid (E5.out.chg hcn)
     replace C := Lib.hid (C.out.trans hcn)
     clear hw hcn hb hp
     refine hK.out _ _ C.out (fun hHeld => ?_)
     clear hK K; try simp only [Act.put, sA, s0, s1]
     refine wpAnyH_ready (rs := [29]) (by kernel_rfl) (by simp) ?_; refine AllReadyH.cons rfl (fun K hK => ?_) AllReadyH.nil; replace hK := Lib.hid hK; go_simp
     refine (l10is_any wc A7 (some ⟨pz, 0, none⟩) c7 2 z7 [Y, Z] [s2E, s3E] [s2E, s3E] R5.out XR.out E5.out QX.out ⟨by have a := E5.out.1; simp at a; omega, by simp⟩ ⟨fun e he => by have := (s_sms (l := [s2E, s3E]) (by simp) e he).2; omega, fun e he => by have := (s_sms (l := [s2E, s3E]) (by simp) e he).2; omega⟩).mono ?_
     rintro r wc ⟨rfl, hc⟩
     rw [sameL_refl]
     replace C := Lib.hid (C.out.trans hc)
     clear hc
     refine hK.out _ _ C.out (fun hHeld => ?_)
     clear hK K; try simp only [Act.put, sA, s0, s1]
     refine sy 30 68 rfl rfl ?_; try simp only [Act.put, sA, s0, s1]
     obtain ⟨n7, hn7⟩ : ∃ n, z7.length = n := ⟨_, rfl⟩
     rw [hn7]
     exact JOIN pz A7 c7 n7 wc C
    ·
     skip; replace hK := Lib.hid hK; go_simp; skip
     obtain ⟨pz, hp⟩ : ∃ p, wc.heap.size = p := ⟨_, rfl⟩
     obtain ⟨wc, hw, hcn, hb⟩ := news1 wc (.cells #[.int .i64 Y.n, .int .i64 Y.s, .string Y.p, .int .i64 Y.k, .int .i64 Y.m, .slice Y.A Y.l Y.c, .slice Y.B Y.bl Y.bc, .int .i64 Z.n, .int .i64 Z.s, .string Z.p, .int .i64 Z.k, .int .i64 Z.m, .slice Z.A Z.l Z.c, .slice Z.B Z.bl Z.bc] 30)
     rw [← hw, hp]
     rw [hp] at hb
     have XR := Lib.hid (rd_twoS (x := Y) (y := Z) hb)
     have QX : Hid (EvsR wc [Y, Z] [s2E, s3E]) := Lib.hid (by simpa using ((EvsR.nil wc).snoc (HY.out wc (D.out.trans (C.out.trans hcn)))).snoc (HZ.out wc (D.out.trans (C.out.trans hcn))))
     try replace R5 := Lib.hid (R5.out.chg hcn (by simp))
     try replace E5 := Lib.hid (E5.out.chg hcn)
     replace C := Lib.hid (C.out.trans hcn)
     clear hw hcn hb hp
     refine hK.out _ _ C.out (fun hHeld => ?_)
     clear hK K; try simp only [Act.put, sA, s0, s1]
     refine wpAnyH_ready (rs := [25]) (by kernel_rfl) (by simp) ?_; refine AllReadyH.cons rfl (fun K hK => ?_) AllReadyH.nil; replace hK := Lib.hid hK; go_simp
     refine (NEA.out _ C.out).mono ?_
     rintro r wc ⟨A7, c7, z7, rfl, he, hc⟩
     have R5 := Lib.hid he.row.reads
     have E5 := Lib.hid he.all.ev
     clear he
     try replace XR := Lib.hid (XR.out.chg hc (by simp))
     try replace QX := Lib.hid (QX.out.chg hc)
     replace C := Lib.hid (C.out.trans hc)
     clear hc
     refine hK.out _ _ C.out (fun hHeld => ?_)
     clear hK K; try simp only [Act.put, sA, s0, s1]
     refine wpAnyH_ready (rs := [29]) (by kernel_rfl) (by simp) ?_; refine AllReadyH.cons rfl (fun K hK => ?_) AllReadyH.nil; replace hK := Lib.hid hK; go_simp
     refine (l10is_any wc A7 (some ⟨pz, 0, none⟩) c7 2 z7 [Y, Z] [s2E, s3E] [s2E, s3E] R5.out XR.out E5.out QX.out ⟨by have a := E5.out.1; simp at a; omega, by simp⟩ ⟨fun e he => by have := (s_sms (l := [s2E, s3E]) (by simp) e he).2; omega, fun e he => by have := (s_sms (l := [s2E, s3E]) (by simp) e he).2; omega⟩).mono ?_
     rintro r wc ⟨rfl, hc⟩
     rw [sameL_refl]
     replace C := Lib.hid (C.out.trans hc)
     clear hc
     refine hK.out _ _ C.out (fun hHeld => ?_)
     clear hK K; try simp only [Act.put, sA, s0, s1]
     refine sy 30 68 rfl rfl ?_; try simp only [Act.put, sA, s0, s1]
     obtain ⟨n7, hn7⟩ : ∃ n, z7.length = n := ⟨_, rfl⟩
     rw [hn7]
     exact JOIN pz A7 c7 n7 wc C
   case rest =>
    intro pz A7 c7 n7 wc C
    clear hHeld
    have hHeld := C.out
    refine sy 31 69 rfl rfl ?_; try simp only [Act.put, sA, s0, s1]
    refine sy 32 70 rfl rfl ?_; try simp only [Act.put, sA, s0, s1]
    refine sy 33 71 rfl rfl ?_; try simp only [Act.put, sA, s0, s1]
    refine sy 34 72 rfl rfl ?_; try simp only [Act.put, sA, s0, s1]
    refine sy 35 73 rfl rfl ?_; try simp only [Act.put, sA, s0, s1]
    refine sy 36 74 rfl rfl ?_; try simp only [Act.put, sA, s0, s1]
    refine sy 37 75 rfl rfl ?_; try simp only [Act.put, sA, s0, s1]
    refine sy 38 76 rfl rfl ?_; try simp only [Act.put, sA, s0, s1]
    refine wpAnyH_ready (rs := [39]) (by kernel_rfl) (by simp) ?_; refine AllReadyH.cons rfl (fun K hK => ?_) AllReadyH.nil; replace hK := Lib.hid hK; go_simp; skip
    obtain ⟨ps, hp⟩ : ∃ p, wc.heap.size = p := ⟨_, rfl⟩
    obtain ⟨wc, hw, hcn, hb⟩ := news1 wc (.cells #[.int .i64 2, .int .i64 1, .int .i64 1, .int .i64 3, .int .i64 1, .int .i64 1] 72)
    rw [← hw, hp]
    rw [hp] at hb
    have XR : Hid (RdK spanTy wc (some ⟨ps, 0, none⟩) 2 [(2, 1, 1), (3, 1, 1)]) := Lib.hid ⟨rfl, fun j v hj => ⟨_, rfl, by rw [add_zero_lit, cell_of hb j]; simpa [RowTy.flat, spanTy] using hj⟩⟩
    replace C := Lib.hid (C.out.trans hcn)
    clear hw hcn hb hp
    refine hK.out _ _ C.out (fun hHeld => ?_)
    clear hK K; try simp only [Act.put, sA, s0, s1]
    refine wpAnyH_ready (rs := [40]) (by kernel_rfl) (by simp) ?_; refine AllReadyH.cons rfl (fun K hK => ?_) AllReadyH.nil; replace hK := Lib.hid hK; go_simp
    refine (samespan_any wc Ak _ 2 2 ck 2 _ _ (RK.out.chg C.out (by simp)) XR.out (by omega) (by omega)).mono ?_
    rintro r wc ⟨rfl, hc⟩
    rw [beq_self_eq_true]
    replace C := Lib.hid (C.out.trans hc)
    clear hc
    refine hK.out _ _ C.out (fun hHeld => ?_)
    clear hK K; try simp only [Act.put, sA, s0, s1]
    refine sy 41 79 rfl rfl ?_; try simp only [Act.put, sA, s0, s1]
    refine sy 42 0 rfl rfl ?_; try simp only [Act.put, sA, s0, s1]
    refine wpAnyH_done (by kernel_rfl) ?_ _; clear hHeld; go_wp2; go_ret
    exact ⟨rfl, C0.out.trans (C2.out.trans (D.out.trans C.out))⟩
end
section
open Go.RowKit Go.Lib


set_option maxRecDepth 100000 in
set_option maxHeartbeats 8000000 in
theorem copyevs_new (w : World) (A : Option Addr) (c : Nat) (xs : List EvT) (es : List EvP) (h : RdK evTy w A xs.length xs) (hx : EvsR w xs es) (hn : xs.length ≤ 100000) (hq : ∀ e ∈ es, e.b.length ≤ 140737488351232 ∧ e.q.length ≤ 100000) :
  Calls Tryz.prog 9 #[.slice A xs.length c] w fun r w' => ∃ (A' : Option Addr) (c' : Nat) (ys : List EvT), r = .returned (.slice A' ys.length c') ∧ ys.length = xs.length ∧ OwnK evTy w' A' c' ys ∧ EvsR w' ys es ∧ ApartE w' A' ys ∧ (∀ a, A' = some a → w.heap.size ≤ a.block) ∧ (∀ x ∈ ys, ∀ a, (x.A = some a ∨ x.B = some a) → w.heap.size ≤ a.block) ∧ Chg [] w w' := by
 have HA := Lib.hid h
 have HX := Lib.hid hx
 have HN := Lib.hid hn
 have HQ := Lib.hid hq
 clear h hx hn hq
 go_enter Tryz.func9, Tryz.ntmps9
 go_wp2
 go_loopw [3, 4] (fun o i wr => ∃ (k : Nat) (A1 : Option Addr) (d1 : Nat) (ys : List EvT), k ≤ xs.length ∧ ys.length = k ∧ i = .int .i64 k ∧ o = .slice A1 ys.length d1 ∧ Hid (OwnK evTy wr A1 d1 ys) ∧ Hid (EvsR wr ys (es.take k)) ∧ Hid (ApartE wr A1 ys) ∧ Hid (∀ a, A1 = some a → w.heap.size ≤ a.block) ∧ Hid (∀ x ∈ ys, ∀ a, (x.A = some a ∨ x.B = some a) → w.heap.size ≤ a.block) ∧ Hid (Chg [] w wr)) (fun _ i _ => xs.length - (RowKit.intOf i).toNat)
 case atStart => exact ⟨0, none, 0, [], Nat.zero_le _, rfl, rfl, rfl, OwnK.none_ _, Lib.hid (by simpa using EvsR.nil _), Lib.hid (fun x hx => by simp at hx), Lib.hid (by simp), Lib.hid (by simp), Chg.refl _ _⟩
 case round =>
  obtain ⟨k, A1, d1, ys, hk, hyl, rfl, rfl, RO, RE, RA, RN, RW, RC⟩ := hrel
  have i0 : (0 : Int) ≤ (k : Int) := by omega
  by_cases hlt : k < xs.length
  ·
   have i1 : (k : Int) < (xs.length : Int) := by omega
   have i3 : IntKind.i64.wrap ((k : Int) + 1) = (k : Int) + 1 := IntWalk.i64_in _ (by have := HN.out; omega)
   obtain ⟨g, o, eA, _⟩ := HA.out.line (by omega)
   subst eA
   obtain ⟨x, e, ex, ee, rx⟩ := HX.out.at_ hlt
   obtain ⟨z0, z1, z2, z3, z4, z5, z6⟩ := evCells (HA.out.chg RC.out (by simp)) ex
   have RX := Lib.hid rx
   have ET : Hid (es.take (k + 1) = es.take k ++ [e]) := Lib.hid (by rw [List.take_add_one, ee]; rfl)
   have EQ := Lib.hid (HQ.out e (List.mem_of_getElem? ee))
   have YL := Lib.hid hyl
   clear ex ee rx hyl; go_wp2_with fail; clear z0 z1 z2 z3 z4 z5 z6
   refine (copyev_any wr x e (RX.out.chg RC.out) EQ.out).mono ?_
   rintro r w2 ⟨A', c', B', d', rfl, hR, hA, hB, hnA, hnB, hne, hc⟩
   obtain ⟨X, hX⟩ : ∃ X : EvT, X = ⟨x.n, x.s, x.p, x.k, x.m, A', x.l, c', B', x.bl, d'⟩ := ⟨_, rfl⟩
   rw [← hX] at hR
   have fX : X.A = A' ∧ X.B = B' := by rw [hX]; exact ⟨rfl, rfl⟩
   have KA : Hid (∀ a, X.A = some a → a.block < w2.heap.size ∧ wr.heap.size ≤ a.block) := Lib.hid (fun a ha => by rw [fX.1] at ha; exact ⟨hA.lt a ha, hnA a ha⟩)
   have KB : Hid (∀ a, X.B = some a → a.block < w2.heap.size ∧ wr.heap.size ≤ a.block) := Lib.hid (fun a ha => by rw [fX.2] at ha; exact ⟨hB.lt_ a ha, hnB a ha⟩)
   have KC : Hid (X.bl ≤ X.bc ∧ X.bc ≤ maxLen) := Lib.hid (by have q := hB.cap; rw [hX]; show x.bl ≤ d' ∧ d' ≤ maxLen; have := RX.out.bl; exact ⟨by omega, q.2⟩)
   have LA1 := Lib.hid RO.out.lt_
   have WS := Lib.hid RC.out.size
   have XR := Lib.hid hR
   replace RO := Lib.hid (RO.out.chg hc (by simp))
   replace RE := Lib.hid (RE.out.chg hc)
   have S2 := Lib.hid hc.size
   replace RC := Lib.hid (RC.out.trans hc)
   have EX : Hid (Value.agg #[.int .i64 x.n, .int .i64 x.s, .string x.p, .int .i64 x.k, .int .i64 x.m, .slice A' x.l c', .slice B' x.bl d'] = .agg #[.int .i64 X.n, .int .i64 X.s, .string X.p, .int .i64 X.k, .int .i64 X.m, .slice X.A X.l X.c, .slice X.B X.bl X.bc]) := Lib.hid (by rw [hX])
   rw [EX.out]
   clear hR hA hB hnA hnB hne hc hX fX EX
   obtain ⟨w3, hw, hc, b3⟩ := news1 w2 (.cells #[.int .i64 X.n, .int .i64 X.s, .string X.p, .int .i64 X.k, .int .i64 X.m, .slice X.A X.l X.c, .slice X.B X.bl X.bc] 30)
   have W3 := Lib.hid hw
   have R3 := Lib.hid (rd_oneEc b3)
   replace RO := Lib.hid (RO.out.chg hc (by simp))
   replace RE := Lib.hid (RE.out.chg hc)
   replace XR := Lib.hid (XR.out.chg hc)
   have S3 := Lib.hid hc.size
   replace RC := Lib.hid (RC.out.trans hc)
   clear hw hc b3
   have N4 : Hid ((ys.length + 1) * 400 ≤ 140737488355327) := Lib.hid (by have := YL.out; have := HN.out; omega)
   go_wp2_with (at_builtin; rw [← W3.out]; refine wpList_appK (R := evTy) rfl (.tmp 11) (.tmp 17) rfl rfl (A := A1) (n := ys.length) (m := 1) (c := d1) (d := 1) (xs := ys) (ys := [X]) RO.out rfl rfl R3.out N4.out ?_; intro A7 c7 w7 o7 g7 e7; have O7 := Lib.hid o7; have F7 := Lib.hid (fresh_appE RN.out RC.out g7 e7); have G7 := Lib.hid g7; have E7 := Lib.hid e7; clear o7 g7 e7)
   have CG : Hid (Chg (blkOf A1) w3 w7) := Lib.hid ((Chg.refl (blkOf A1) w3).grown G7.out (fun i hi => by
    cases A1 with
    | none => simp at hi
    | some a => simp at hi; subst hi; exact .inl (mem_blkOf rfl)))
   have RE7 : Hid (EvsR w7 (ys ++ [X]) (es.take (k + 1))) := Lib.hid (by
    rw [ET.out]
    refine EvsR.snoc (RE.out.chgS CG.out (fun y hy => ⟨fun a ha q => ?_, fun a ha q => ?_⟩)) (XR.out.chgS CG.out (fun a ha q => ?_) (fun a ha q => ?_))
    ·
     obtain ⟨b, hb, e⟩ := of_blkOf q; exact ((RA.out y hy).1 a ha).2 b hb e.symm
    ·
     obtain ⟨b, hb, e⟩ := of_blkOf q; exact ((RA.out y hy).2.1 a ha).2 b hb e.symm
    ·
     obtain ⟨b, hb, e⟩ := of_blkOf q; have := LA1.out b hb; have := (KA.out a ha).2; omega
    ·
     obtain ⟨b, hb, e⟩ := of_blkOf q; have := LA1.out b hb; have := (KB.out a ha).2; omega)
   have RA7 : Hid (ApartE w7 A7 (ys ++ [X])) := Lib.hid (fun y hy => by
    have s7 := CG.out.size
    have s3 := S3.out
    have s2 := S2.out
    have lo : ∀ a : Addr, a.block < w3.heap.size → (∀ b, A1 = some b → a.block ≠ b.block) → a.block < w7.heap.size ∧ ∀ b, A7 = some b → a.block ≠ b.block := fun a h1 h2 => ⟨by omega, fun b hb => by
     rcases E7.out with q | q
     ·
      rw [q] at hb; exact h2 b hb
     ·
      rw [q] at hb; cases hb; exact Nat.ne_of_lt h1⟩
    rcases List.mem_append.1 hy with r | r
    ·
     exact ⟨fun a ha => lo a (by have := ((RA.out y r).1 a ha).1; omega) ((RA.out y r).1 a ha).2, fun a ha => lo a (by have := ((RA.out y r).2.1 a ha).1; omega) ((RA.out y r).2.1 a ha).2, (RA.out y r).2.2⟩
    ·
     simp at r
     subst r
     exact ⟨fun a ha => lo a (by have := (KA.out a ha).1; omega) (fun b hb => by have := LA1.out b hb; have := (KA.out a ha).2; omega), fun a ha => lo a (by have := (KB.out a ha).1; omega) (fun b hb => by have := LA1.out b hb; have := (KB.out a ha).2; omega), KC.out⟩)
   have RW7 : Hid (∀ x ∈ ys ++ [X], ∀ a, (x.A = some a ∨ x.B = some a) → w.heap.size ≤ a.block) := Lib.hid (fun y hy a ha => by
    have ws := WS.out
    rcases List.mem_append.1 hy with r | r
    ·
     exact RW.out y r a ha
    ·
     simp at r
     subst r
     rcases ha with q | q
     ·
      have := (KA.out a q).2; omega
     ·
      have := (KB.out a q).2; omega)
   clear CG G7 E7 RO RE RA RW; go_wp2; go_round
   case rel => exact ⟨k + 1, A7, c7, ys ++ [X], by omega, by simp [YL.out], by go_num, by simp, O7, RE7, RA7, Lib.hid F7.out.1, RW7, F7.out.2⟩
   case measure => simp [RowKit.intOf]; omega
  ·
   obtain rfl : k = xs.length := by omega
   have i1 : ¬ (xs.length : Int) < (xs.length : Int) := by omega
   have ET : es.take xs.length = es := by rw [HX.out.1]; exact List.take_length
   rw [ET] at RE
   have YL := Lib.hid hyl
   clear hyl ET; go_wp2; go_ret
   exact ⟨A1, d1, ys, rfl, YL.out, RO.out, RE.out, RA.out, RN.out, RW.out, RC.out⟩
end
section
open Go.RowKit Go.Lib


theorem known_small {es : List EvP} (h : es.length ≤ 1000) : (knownE es).2.length ≤ 140737488351232 := by
 unfold knownE
 split
 ·
  have l : (dotsE es).length ≤ 1000 := by unfold dotsE; rw [List.length_map]; exact h
  show (ofE (dotsE es)).2.length ≤ _
  by_cases q : fineL (dotsE es) = true
  ·
   have o := of_ok q (by omega)
   rw [o.1]
   show (tidyS ((dotsE es).map aloneP)).length ≤ _
   have := o.2.2.1
   omega
  ·
   unfold ofE
   rw [if_neg q]
   simp
 ·
  simp

set_option maxRecDepth 100000 in
set_option maxHeartbeats 32000000 in
theorem storetells_yes (w : World) (A : Option Addr) (n c : Nat) (xs : List EvT) (es : List EvP) (hb : RdK evTy w A n xs) (hr : EvsR w xs es) (hn : n * 96 ≤ 140737488351232) (hm : n ≤ c) (hz : ∀ (i : Nat) (x : EvT) (e : EvP), xs[i]? = some x → es[i]? = some e → EvZ x e) (p : ByteArray) (B : Option Addr) (m d : Nat) (ks : List Sp) (hk : RdK spanTy w B m ks) (hkn : m * 24 ≤ 140737488351232) :
  Calls Tryz.prog 4 #[.slice A n c, .string p, .slice B m d] w fun r w' => r = .returned (.bool true) ∧ Chg [] w w' := by

 have hl := hb.len
 subst hl
 have HFT := Lib.hid (fit_args hr hz)
 have HL0 : Hid (xs.length ≤ 140737488351232) := Lib.hid (by omega)
 have XL : Hid (∀ x ∈ xs, x.l ≤ 140737488351232) := Lib.hid (fun x hx => by
  obtain ⟨i, hi⟩ := List.getElem?_of_mem hx
  obtain ⟨x2, e, ex, ee, rx⟩ := hr.at_ (show i < xs.length from (List.getElem?_eq_some_iff.1 hi).1)
  rw [hi] at ex
  cases ex
  have a := rx.l
  have b := (hz i x e hi ee).1
  omega)
 have hlk := hk.len
 subst hlk
 obtain ⟨pl, hpl⟩ : ∃ pl, strOf pl = p := ⟨p.data.toList, strOf_of p⟩
 subst hpl
 have HI : Hid (∀ e ∈ es, -9223372036854775808 ≤ e.n ∧ e.n ≤ 9223372036854775807 ∧ -9223372036854775808 ≤ e.s ∧ e.s ≤ 9223372036854775807) := Lib.hid (fun e he => by
  obtain ⟨i, hi⟩ := List.getElem?_of_mem he
  obtain ⟨x2, e2, ex, ee, rx⟩ := hr.at_ (show i < xs.length from by rw [hr.1]; exact (List.getElem?_eq_some_iff.1 hi).1)
  rw [hi] at ee
  cases ee
  exact (hz i x2 e ex hi).2.2.2.2)
 have HA := Lib.hid hb
 have HR := Lib.hid hr
 have HK := Lib.hid hk
 have SZP : (strOf pl).size = pl.length := by show pl.toArray.size = pl.length; simp
 have C := Lib.hid (Chg.refl [] w)
 clear hb hr hn hm hz hk hkn HFT
 go_enter Tryz.func4, Tryz.ntmps4
 go_wp2_with fail
 have lv := longevs_any w A c xs 16 (HA.out.chg C.out (by simp)) HL0.out (by omega) XL.out
 rw [show ((16 : Nat) : Int) = 16 from rfl] at lv
 refine lv.mono ?_
 rintro r w1 ⟨rfl, hc⟩
 clear lv
 replace C := Lib.hid (C.out.trans hc)
 clear hc
 rcases hlong : longE xs 16 with _ | _
 rotate_left
 ·
  skip; go_wp2_with fail
  refine (l10awake_run _).mono ?_
  rintro r w9 ⟨rfl, hc⟩
  replace C := Lib.hid (C.out.trans hc)
  clear hc; go_wp2; go_ret
  exact ⟨rfl, C.out⟩
 have sm := smallEvs HR.out hlong
 have SM : Hid (∀ e ∈ es, EvSm e ∧ e.q.length ≤ 100000) := Lib.hid (fun e he => ⟨(sm.1 e he).1, by have := (sm.1 e he).2.1; omega⟩)
 have LN : Hid (xs.length ≤ 16) := Lib.hid sm.2
 clear sm hlong
 by_cases hP : pl.length > 100
 ·
  skip
  have hP0 : ((strOf pl).size : Int) > 100 := by omega
  have hPd0 : decide (((strOf pl).size : Int) > 100) = true := decide_eq_true hP0
  have hP1 : (100 : Int) < ((strOf pl).size : Int) := by omega
  have hPd1 : decide ((100 : Int) < ((strOf pl).size : Int)) = true := decide_eq_true hP1
  have hP2 : 100 < (strOf pl).size := by omega
  have hPd2 : decide (100 < (strOf pl).size) = true := decide_eq_true hP2
  have hP3 : 100 < pl.length := by omega
  have hPd3 : decide (100 < pl.length) = true := decide_eq_true hP3
  have hP4 : (100 : Int) < ((strOf pl).size : Int) := by omega
  have hPd4 : decide ((100 : Int) < ((strOf pl).size : Int)) = true := decide_eq_true hP4
  have hP5 : (100 : Int) < (pl.length : Int) := by omega
  have hPd5 : decide ((100 : Int) < (pl.length : Int)) = true := decide_eq_true hP5
  go_wp2_with fail
  refine (l10awake_run _).mono ?_
  rintro r w9 ⟨rfl, hc⟩
  replace C := Lib.hid (C.out.trans hc)
  clear hc; go_wp2; go_ret
  exact ⟨rfl, C.out⟩
 have hP0 : ¬ ((strOf pl).size : Int) > 100 := by omega
 have hPd0 : decide (((strOf pl).size : Int) > 100) = false := decide_eq_false hP0
 have hP1 : ¬ (100 : Int) < ((strOf pl).size : Int) := by omega
 have hPd1 : decide ((100 : Int) < ((strOf pl).size : Int)) = false := decide_eq_false hP1
 have hP2 : ¬ 100 < (strOf pl).size := by omega
 have hPd2 : decide (100 < (strOf pl).size) = false := decide_eq_false hP2
 have hP3 : ¬ 100 < pl.length := by omega
 have hPd3 : decide (100 < pl.length) = false := decide_eq_false hP3
 have hP4 : ¬ (100 : Int) < ((strOf pl).size : Int) := by omega
 have hPd4 : decide ((100 : Int) < ((strOf pl).size : Int)) = false := decide_eq_false hP4
 have hP5 : ¬ (100 : Int) < (pl.length : Int) := by omega
 have hPd5 : decide ((100 : Int) < (pl.length : Int)) = false := decide_eq_false hP5
 have PL : Hid (pl.length ≤ 10000000) := Lib.hid (by omega)
 by_cases hQ : ks.length > 100
 ·
  skip
  have hQ0 : (ks.length : Int) > 100 := by omega
  have hQd0 : decide ((ks.length : Int) > 100) = true := decide_eq_true hQ0
  have hQ1 : (100 : Int) < (ks.length : Int) := by omega
  have hQd1 : decide ((100 : Int) < (ks.length : Int)) = true := decide_eq_true hQ1
  have hQ2 : 100 < ks.length := by omega
  have hQd2 : decide (100 < ks.length) = true := decide_eq_true hQ2
  have hQ3 : (100 : Int) < (ks.length : Int) := by omega
  have hQd3 : decide ((100 : Int) < (ks.length : Int)) = true := decide_eq_true hQ3
  go_wp2_with fail
  refine (l10awake_run _).mono ?_
  rintro r w9 ⟨rfl, hc⟩
  replace C := Lib.hid (C.out.trans hc)
  clear hc; go_wp2; go_ret
  exact ⟨rfl, C.out⟩
 have hQ0 : ¬ (ks.length : Int) > 100 := by omega
 have hQd0 : decide ((ks.length : Int) > 100) = false := decide_eq_false hQ0
 have hQ1 : ¬ (100 : Int) < (ks.length : Int) := by omega
 have hQd1 : decide ((100 : Int) < (ks.length : Int)) = false := decide_eq_false hQ1
 have hQ2 : ¬ 100 < ks.length := by omega
 have hQd2 : decide (100 < ks.length) = false := decide_eq_false hQ2
 have hQ3 : ¬ (100 : Int) < (ks.length : Int) := by omega
 have hQd3 : decide ((100 : Int) < (ks.length : Int)) = false := decide_eq_false hQ3
 have KL : Hid (ks.length ≤ 100) := Lib.hid (by omega)
 go_upto_region 3 with fail
 clear hP0 hPd0 hP1 hPd1 hP2 hPd2 hP3 hPd3 hP4 hPd4 hP5 hPd5 hQ0 hQd0 hQ1 hQd1 hQ2 hQd2 hQ3 hQd3 hP hQ SZP; go_wp2_with fail
 refine (copyevs_new w1 A c xs es (HA.out.chg C.out (by simp)) (HR.out.chg C.out) (by have := LN.out; omega) (fun e he => ⟨(SM.out e he).1.2.1, (SM.out e he).2⟩)).mono ?_
 rintro r w2 ⟨AI, cI, zi, rfl, hyl, ho, hy, hap, hnw, hnx, hc⟩
 have RI := Lib.hid (And.intro ho hy)
 have LI := Lib.hid hyl
 replace C := Lib.hid (C.out.trans hc)
 clear hyl ho hy hap hnw hnx hc; go_wp2_with fail
 refine (copyspan_any w2 B ks.length d ks (HK.out.chg C.out (by simp)) (by have := KL.out; omega)).mono ?_
 rintro r w3 ⟨AY, cY, rfl, ho, hnw, hc⟩
 have RY := Lib.hid ho
 replace C := Lib.hid (C.out.trans hc)
 replace RI := Lib.hid (And.intro (RI.out.1.chg hc (by simp)) (RI.out.2.chg hc))
 clear ho hnw hc; have C7 := C
 have D := Lib.hid (Chg.refl [] w3)
 go_wp2_with fail
 refine (stshelf_any w3 AI cI zi es pl (RI.out.1.reads.chg D.out (by simp)) (RI.out.2.chg D.out) (by have := LI.out; have := LN.out; omega) SM.out).mono ?_
 rintro r wa ⟨Aa, ca, za, rfl, he, hc⟩
 have Fa := Lib.hid he
 have Sa := Lib.hid hc.size
 replace C := Lib.hid (C.out.trans hc)
 replace D := Lib.hid (D.out.trans hc)
 clear hc he; go_wp2_with fail
 refine (stnear_any wa AI cI zi es pl (RI.out.1.reads.chg D.out (by simp)) (RI.out.2.chg D.out) (by have := LI.out; have := LN.out; omega) PL.out SM.out).mono ?_
 rintro r wb ⟨Ab, cb, zb, rfl, he, hc⟩
 have Fb := Lib.hid he
 have Sb := Lib.hid hc.size
 replace C := Lib.hid (C.out.trans hc)
 replace D := Lib.hid (D.out.trans hc)
 replace Fa := Lib.hid (Fa.out.chg hc (by simp))
 clear hc he; go_wp2_with fail
 refine (stmissing_any wb AI cI zi es AY cY ks (RI.out.1.reads.chg D.out (by simp)) (RI.out.2.chg D.out) (by have := LI.out; have := LN.out; omega) (RY.out.reads.chg D.out (by simp)) (by have := KL.out; omega) SM.out).mono ?_
 rintro r wm ⟨Am, cm, zm, rfl, he, hc⟩
 have Fm := Lib.hid he
 have Sm := Lib.hid hc.size
 replace C := Lib.hid (C.out.trans hc)
 replace D := Lib.hid (D.out.trans hc)
 replace Fa := Lib.hid (Fa.out.chg hc (by simp))
 replace Fb := Lib.hid (Fb.out.chg hc (by simp))
 clear hc he
 have Za : Hid (za.length ≤ 16 ∧ ∀ e ∈ es.filter (fun e => decide (e.p = pl)), e.q.length ≤ 140737488351232) := Lib.hid ⟨by have a := Fa.out.all.ev.1; have b := List.length_filter_le (fun e => decide (e.p = pl)) es; have := HR.out.1; have := LN.out; omega, fun e he => by have := (SM.out e (List.mem_filter.1 he).1).2; omega⟩
 have Zb : Hid (zb.length ≤ 16 ∧ ∀ e ∈ es.filter (fun e => nearL e.p pl), e.q.length ≤ 140737488351232) := Lib.hid ⟨by have a := Fb.out.all.ev.1; have b := List.length_filter_le (fun e => nearL e.p pl) es; have := HR.out.1; have := LN.out; omega, fun e he => by have := (SM.out e (List.mem_filter.1 he).1).2; omega⟩
 have Zm : Hid (zm.length ≤ 16 ∧ ∀ e ∈ es.filter (fun e => !hasE ks e.n e.s), e.q.length ≤ 140737488351232) := Lib.hid ⟨by have a := Fm.out.all.ev.1; have b := List.length_filter_le (fun e => !hasE ks e.n e.s) es; have := HR.out.1; have := LN.out; omega, fun e he => by have := (SM.out e (List.mem_filter.1 he).1).2; omega⟩
 go_wp2_with fail
 refine (ktshelf_any wm A c xs es pl (HA.out.chg C.out (by simp)) (HR.out.chg C.out) (by have := LN.out; omega) SM.out).mono ?_
 rintro r x1 ⟨AQ, cQ, zq, rfl, hq, hqe, hc⟩
 have RQ := Lib.hid (And.intro hq hqe)
 have LQ : Hid (zq.length ≤ 16) := Lib.hid (by have a := hqe.1; have b := List.length_filter_le (fun e => decide (e.p = pl)) es; have := HR.out.1; have := LN.out; omega)
 replace C := Lib.hid (C.out.trans hc)
 replace D := Lib.hid (D.out.trans hc)
 replace Fa := Lib.hid (Fa.out.chg hc (by simp))
 replace Fb := Lib.hid (Fb.out.chg hc (by simp))
 replace Fm := Lib.hid (Fm.out.chg hc (by simp))
 clear hc hq hqe; go_wp2_with fail
 refine (sameevs_any x1 Aa AQ ca cQ za zq _ _ Fa.out.row.reads RQ.out.1 Fa.out.all.ev RQ.out.2 ⟨by have := Za.out.1; omega, by have := LQ.out; omega⟩ ⟨Za.out.2, Za.out.2⟩).mono ?_
 rintro r x2 ⟨rfl, hc⟩
 rw [sameL_refl]
 replace C := Lib.hid (C.out.trans hc)
 replace D := Lib.hid (D.out.trans hc)
 replace Fa := Lib.hid (Fa.out.chg hc (by simp))
 replace Fb := Lib.hid (Fb.out.chg hc (by simp))
 replace Fm := Lib.hid (Fm.out.chg hc (by simp))
 clear hc RQ LQ; go_wp2_with fail
 refine (ktnear_any x2 A c xs es pl (HA.out.chg C.out (by simp)) (HR.out.chg C.out) (by have := LN.out; omega) PL.out SM.out).mono ?_
 rintro r x3 ⟨AQ, cQ, zq, rfl, hq, hqe, hc⟩
 have RQ := Lib.hid (And.intro hq hqe)
 have LQ : Hid (zq.length ≤ 16) := Lib.hid (by have a := hqe.1; have b := List.length_filter_le (fun e => nearL e.p pl) es; have := HR.out.1; have := LN.out; omega)
 replace C := Lib.hid (C.out.trans hc)
 replace D := Lib.hid (D.out.trans hc)
 replace Fa := Lib.hid (Fa.out.chg hc (by simp))
 replace Fb := Lib.hid (Fb.out.chg hc (by simp))
 replace Fm := Lib.hid (Fm.out.chg hc (by simp))
 clear hc hq hqe; go_wp2_with fail
 refine (sameevs_any x3 Ab AQ cb cQ zb zq _ _ Fb.out.row.reads RQ.out.1 Fb.out.all.ev RQ.out.2 ⟨by have := Zb.out.1; omega, by have := LQ.out; omega⟩ ⟨Zb.out.2, Zb.out.2⟩).mono ?_
 rintro r x4 ⟨rfl, hc⟩
 rw [sameL_refl]
 replace C := Lib.hid (C.out.trans hc)
 replace D := Lib.hid (D.out.trans hc)
 replace Fa := Lib.hid (Fa.out.chg hc (by simp))
 replace Fb := Lib.hid (Fb.out.chg hc (by simp))
 replace Fm := Lib.hid (Fm.out.chg hc (by simp))
 clear hc RQ LQ; go_wp2_with fail
 refine (ktmissing_any x4 A c xs es B d ks (HA.out.chg C.out (by simp)) (HR.out.chg C.out) (by have := LN.out; omega) (HK.out.chg C.out (by simp)) (by have := KL.out; omega) SM.out).mono ?_
 rintro r x5 ⟨AQ, cQ, zq, rfl, hq, hqe, hc⟩
 have RQ := Lib.hid (And.intro hq hqe)
 have LQ : Hid (zq.length ≤ 16) := Lib.hid (by have a := hqe.1; have b := List.length_filter_le (fun e => !hasE ks e.n e.s) es; have := HR.out.1; have := LN.out; omega)
 replace C := Lib.hid (C.out.trans hc)
 replace D := Lib.hid (D.out.trans hc)
 replace Fa := Lib.hid (Fa.out.chg hc (by simp))
 replace Fb := Lib.hid (Fb.out.chg hc (by simp))
 replace Fm := Lib.hid (Fm.out.chg hc (by simp))
 clear hc hq hqe; go_wp2_with fail
 refine (sameevs_any x5 Am AQ cm cQ zm zq _ _ Fm.out.row.reads RQ.out.1 Fm.out.all.ev RQ.out.2 ⟨by have := Zm.out.1; omega, by have := LQ.out; omega⟩ ⟨Zm.out.2, Zm.out.2⟩).mono ?_
 rintro r x6 ⟨rfl, hc⟩
 rw [sameL_refl]
 replace C := Lib.hid (C.out.trans hc)
 replace D := Lib.hid (D.out.trans hc)
 replace Fa := Lib.hid (Fa.out.chg hc (by simp))
 replace Fb := Lib.hid (Fb.out.chg hc (by simp))
 replace Fm := Lib.hid (Fm.out.chg hc (by simp))
 clear hc RQ LQ
 have LP : Hid ((pathsE es).length ≤ 100000) := Lib.hid (by have := pathsE_len es; have := HR.out.1; have := LN.out; omega)
 go_wp2_with fail
 refine (stpaths_any x6 AI cI zi es (RI.out.1.reads.chg D.out (by simp)) RI.out.1.cap.1 (.inr (fun a ha => Nat.lt_of_lt_of_le (RI.out.1.lt a ha) D.out.size)) (RI.out.2.chg D.out) (by have := LI.out; have := LN.out; omega) (fun e he => (SM.out e he).1)).mono ?_
 rintro r y1 ⟨BP, dP, rfl, hq, hc⟩
 have RP := Lib.hid hq
 replace C := Lib.hid (C.out.trans hc)
 replace D := Lib.hid (D.out.trans hc)
 replace Fa := Lib.hid (Fa.out.chg hc (by simp))
 replace Fb := Lib.hid (Fb.out.chg hc (by simp))
 replace Fm := Lib.hid (Fm.out.chg hc (by simp))
 clear hc hq; go_wp2_with fail
 refine (ktpaths_any y1 A c xs es (HA.out.chg C.out (by simp)) (HR.out.chg C.out) (by have := LN.out; omega)).mono ?_
 rintro r y2 ⟨BQ, dQ, rfl, hq, hc⟩
 have RQ := Lib.hid hq
 replace C := Lib.hid (C.out.trans hc)
 replace D := Lib.hid (D.out.trans hc)
 replace Fa := Lib.hid (Fa.out.chg hc (by simp))
 replace Fb := Lib.hid (Fb.out.chg hc (by simp))
 replace Fm := Lib.hid (Fm.out.chg hc (by simp))
 replace RP := Lib.hid (RP.out.chg hc (by simp))
 clear hc hq; go_wp2_with fail
 refine (sametexts_any y2 BP BQ dP dQ (pathsE es) (pathsE es) RP.out RQ.out (by have := LP.out; omega) (by have := LP.out; omega)).mono ?_
 rintro r y3 ⟨rfl, hc⟩
 rw [beq_self_eq_true]
 replace C := Lib.hid (C.out.trans hc)
 replace D := Lib.hid (D.out.trans hc)
 replace Fa := Lib.hid (Fa.out.chg hc (by simp))
 replace Fb := Lib.hid (Fb.out.chg hc (by simp))
 replace Fm := Lib.hid (Fm.out.chg hc (by simp))
 replace RP := Lib.hid (RP.out.chg hc (by simp))
 clear hc RP RQ; go_wp2_with fail
 refine (overevs_own y3 w3.heap.size wa.heap.size Aa ca za _ Fa.out (by have := Za.out.1; omega)).mono ?_
 rintro r o0 ⟨rfl, S, hS, h9⟩
 have LO : w3.heap.size ≤ w3.heap.size := Nat.le_refl _
 replace D := Lib.hid (D.out.trans' h9 (fun i hi => .inr (Nat.le_trans LO (hS i hi).1)))
 replace C := Lib.hid (C.out.trans' h9 (fun i hi => .inr (Nat.le_trans C7.out.size (Nat.le_trans LO (hS i hi).1))))
 replace Fb := Lib.hid (Fb.out.chg h9 (fun i hi q => by have := (hS i hi).2; have := Sb.out; omega))
 replace Fm := Lib.hid (Fm.out.chg h9 (fun i hi q => by have := (hS i hi).2; have := Sb.out; omega))
 clear hS h9 LO Fa; go_wp2_with fail
 refine (overevs_own o0 wa.heap.size wb.heap.size Ab cb zb _ Fb.out (by have := Zb.out.1; omega)).mono ?_
 rintro r o1 ⟨rfl, S, hS, h9⟩
 have LO : w3.heap.size ≤ wa.heap.size := Sa.out
 replace D := Lib.hid (D.out.trans' h9 (fun i hi => .inr (Nat.le_trans LO (hS i hi).1)))
 replace C := Lib.hid (C.out.trans' h9 (fun i hi => .inr (Nat.le_trans C7.out.size (Nat.le_trans LO (hS i hi).1))))
 replace Fm := Lib.hid (Fm.out.chg h9 (fun i hi q => by have := (hS i hi).2; have := Sb.out; omega))
 clear hS h9 LO Fb; go_wp2_with fail
 refine (overevs_own o1 wb.heap.size wm.heap.size Am cm zm _ Fm.out (by have := Zm.out.1; omega)).mono ?_
 rintro r o2 ⟨rfl, S, hS, h9⟩
 have LO : w3.heap.size ≤ wb.heap.size := Nat.le_trans Sa.out Sb.out
 replace D := Lib.hid (D.out.trans' h9 (fun i hi => .inr (Nat.le_trans LO (hS i hi).1)))
 replace C := Lib.hid (C.out.trans' h9 (fun i hi => .inr (Nat.le_trans C7.out.size (Nat.le_trans LO (hS i hi).1))))
 clear hS h9 LO Fm; go_wp2_with fail
 refine (stknownf_any o2 AI cI zi es (RI.out.1.reads.chg D.out (by simp)) RI.out.1.cap.1 (.inr (fun a ha => Nat.lt_of_lt_of_le (RI.out.1.lt a ha) D.out.size)) (RI.out.2.chg D.out) (by have := LI.out; have := LN.out; omega) (fun e he => (SM.out e he).1)).mono ?_
 rintro r k1 ⟨AK, cK, rfl, ho, hc⟩
 have RK := Lib.hid ho.reads
 replace C := Lib.hid (C.out.trans hc)
 replace D := Lib.hid (D.out.trans hc)
 clear hc ho; go_wp2_with fail
 refine (ktknown_any k1 A c xs es (HA.out.chg C.out (by simp)) (HR.out.chg C.out) (by have := LN.out; omega) SM.out).mono ?_
 rintro r k2 ⟨AL, cL, rfl, ho, hc⟩
 have RL := Lib.hid ho.reads
 replace C := Lib.hid (C.out.trans hc)
 replace D := Lib.hid (D.out.trans hc)
 replace RK := Lib.hid (RK.out.chg hc (by simp))
 clear hc ho
 have KNL : Hid ((knownE es).2.length ≤ 140737488351232) := Lib.hid (known_small (by have := HR.out.1; have := LN.out; omega))
 obtain ⟨kn, hkn⟩ : ∃ q, knownE es = q := ⟨_, rfl⟩
 rw [hkn] at RK RL KNL ⊢
 clear hkn; go_wp2_with fail
 refine (stprint_any k2 AI cI zi es (RI.out.1.reads.chg D.out (by simp)) RI.out.1.cap.1 (.inr (fun a ha => Nat.lt_of_lt_of_le (RI.out.1.lt a ha) D.out.size)) (RI.out.2.chg D.out) (by have := LI.out; have := LN.out; omega) (fun e he => (SM.out e he).1)).mono ?_
 rintro r k3 ⟨rfl, hc⟩
 replace C := Lib.hid (C.out.trans hc)
 replace D := Lib.hid (D.out.trans hc)
 replace RK := Lib.hid (RK.out.chg hc (by simp))
 replace RL := Lib.hid (RL.out.chg hc (by simp))
 clear hc; go_wp2_with fail
 refine (ktprint_any k3 A c xs es (HA.out.chg C.out (by simp)) (HR.out.chg C.out) (by have := LN.out; omega) SM.out HI.out).mono ?_
 rintro r k4 ⟨rfl, hc⟩
 replace C := Lib.hid (C.out.trans hc)
 replace D := Lib.hid (D.out.trans hc)
 replace RK := Lib.hid (RK.out.chg hc (by simp))
 replace RL := Lib.hid (RL.out.chg hc (by simp))
 clear hc
 obtain ⟨pr, hpr⟩ : ∃ q, printE es = q := ⟨_, rfl⟩
 rw [hpr]
 clear hpr; go_wp2_with fail
 refine (samespan_any k4 AK AL _ _ cK cL _ _ RK.out RL.out KNL.out KNL.out).mono ?_
 rintro r k5 ⟨rfl, hc⟩
 rw [beq_self_eq_true]
 replace C := Lib.hid (C.out.trans hc)
 replace D := Lib.hid (D.out.trans hc)
 replace RK := Lib.hid (RK.out.chg hc (by simp))
 replace RL := Lib.hid (RL.out.chg hc (by simp))
 clear hc RK RL; go_wp2_with fail
 refine (stsize_any k5 AI cI zi es (RI.out.1.reads.chg D.out (by simp)) (RI.out.2.chg D.out) (by have := LI.out; have := LN.out; omega) (fun e he => (SM.out e he).1)).mono ?_
 rintro r k6 ⟨rfl, hc⟩
 replace C := Lib.hid (C.out.trans hc)
 replace D := Lib.hid (D.out.trans hc)
 clear hc; go_wp2_with fail
 refine (ktsize_any k6 A c xs es (HA.out.chg C.out (by simp)) (HR.out.chg C.out) (by have := LN.out; omega) (fun e he => (SM.out e he).1) HI.out).mono ?_
 rintro r k7 ⟨rfl, hc⟩
 replace C := Lib.hid (C.out.trans hc)
 replace D := Lib.hid (D.out.trans hc)
 clear hc
 obtain ⟨sz, hsz⟩ : ∃ q, sizeE es = q := ⟨_, rfl⟩
 rw [hsz]
 clear hsz
 have QX : Hid (∀ e ∈ es, e.q.length ≤ 140737488351232) := Lib.hid (fun e he => by have := (SM.out e he).2; omega)
 go_wp2_with fail
 refine (sameevs_any k7 AI A cI c zi xs es es (RI.out.1.reads.chg D.out (by simp)) (HA.out.chg C.out (by simp)) (RI.out.2.chg D.out) (HR.out.chg C.out) ⟨by have := LI.out; have := LN.out; omega, by have := LN.out; omega⟩ ⟨QX.out, QX.out⟩).mono ?_
 rintro r k8 ⟨rfl, hc⟩
 rw [sameL_refl]
 replace C := Lib.hid (C.out.trans hc)
 replace D := Lib.hid (D.out.trans hc)
 clear hc; go_wp2_with fail
 refine (samespan_any k8 AY B _ _ cY d _ _ (RY.out.reads.chg D.out (by simp)) (HK.out.chg C.out (by simp)) (by have := KL.out; omega) (by have := KL.out; omega)).mono ?_
 rintro r k9 ⟨rfl, hc⟩
 rw [beq_self_eq_true]
 replace C := Lib.hid (C.out.trans hc)
 replace D := Lib.hid (D.out.trans hc)
 clear hc; go_wp2_with fail
 refine (l10awake_run k9).mono ?_
 rintro r ka ⟨rfl, hc⟩
 replace C := Lib.hid (C.out.trans hc)
 replace D := Lib.hid (D.out.trans hc)
 clear hc; go_wp2; go_ret
 exact ⟨(by first | rfl | simp), C.out⟩
end
section
open Go.RowKit Go.WideShapes Go.ChangeShapes Go.Deep

section
variable {H : Type} {enc : TypeId × Value → H} {w : World} {base : Nat} {spare : Nat → Bool} {held : Bool}
set_option maxRecDepth 100000 in
set_option maxHeartbeats 1000000 in
theorem open_events {n : Nat} {cs : List Value} {y : DataW H × List MemPlace} (h : DataW.trod enc Tryz.prog w base spare held n 22 cs = some y) (hz : ∀ k ∈ y.1.weights Tryz.prog 22, k ≤ reachBytes) :
  ∃ A m d zs es, cs = [.slice A m d] ∧ RdK evTy w A m zs ∧ EvsR w zs es ∧ m * 96 ≤ 140737488351232 ∧ m ≤ d ∧ ∀ (i : Nat) (x : EvT) (e : EvP), zs[i]? = some x → es[i]? = some e → EvZ x e := by
 rcases open_slice Tryz.underlying22 h with ⟨rfl, _⟩ | ⟨a, len, cap, m, k, D, Pl, rfl, _, hl, hm, hmm, rfl, hi⟩
 ·
  exact ⟨none, 0, 0, [], [], rfl, RdK.nil _ _, EvsR.nil _, by decide, by decide, by simp⟩
 ·
  have hlm : len ≤ m := by rw [hmm]; split <;> omega
  obtain ⟨hw, hwd⟩ := weights_slice Tryz.underlying22 hz
  rw [show Tryz.prog.bytesOf 30 = 96 by kernel_rfl] at hw
  simp [reachBytes] at hw
  have hC : Tryz.prog.cellsOf 30 = 7 := by kernel_rfl
  obtain ⟨l, hll, hat⟩ := list_of (Q := fun i (x : EvT × EvP) => (w.cell? (a.add (i * 7)) = some (.int .i64 x.1.n) ∧ w.cell? (a.add (i * 7 + 1)) = some (.int .i64 x.1.s) ∧ w.cell? (a.add (i * 7 + 2)) = some (.string x.1.p) ∧ w.cell? (a.add (i * 7 + 3)) = some (.int .i64 x.1.k) ∧ w.cell? (a.add (i * 7 + 4)) = some (.int .i64 x.1.m) ∧ w.cell? (a.add (i * 7 + 5)) = some (.slice x.1.A x.1.l x.1.c) ∧ w.cell? (a.add (i * 7 + 6)) = some (.slice x.1.B x.1.bl x.1.bc)) ∧ EvR w x.1 x.2 ∧ EvZ x.1 x.2) len (fun i hilt => by
   obtain ⟨cs', hc, ht⟩ := hi i (by omega)
   rw [hC] at hc
   obtain ⟨_, hcl, hat⟩ := World.cells?_some hc
   obtain ⟨x, e, rfl, hr, hz2⟩ := open_event ht (fun k hk => hwd (D i) (List.mem_map.2 ⟨i, List.mem_range.2 hilt, rfl⟩) k hk)
   have g0 := hat 0 (by simp)
   have g1 := hat 1 (by simp)
   have g2 := hat 2 (by simp)
   have g3 := hat 3 (by simp)
   have g4 := hat 4 (by simp)
   have g5 := hat 5 (by simp)
   have g6 := hat 6 (by simp)
   rw [add_add] at g0 g1 g2 g3 g4 g5 g6
   exact ⟨(x, e), ⟨g0, g1, g2, g3, g4, g5, g6⟩, hr, hz2⟩)
  refine ⟨some a, len, cap, l.map (·.1), l.map (·.2), rfl, ⟨by rw [List.length_map]; exact hll, fun j v hj => ⟨a, rfl, ?_⟩⟩, ⟨by simp, fun i x e hx he => ?_⟩, by omega, hl, fun i x e hx he => ?_⟩
  rotate_left
  ·
   rw [List.getElem?_map, Option.map_eq_some_iff] at hx he
   obtain ⟨p, hp, rfl⟩ := hx
   obtain ⟨q, hq, rfl⟩ := he
   rw [hp] at hq
   cases hq
   exact (hat i _ hp).2.1
  ·
   rw [List.getElem?_map, Option.map_eq_some_iff] at hx he
   obtain ⟨p, hp, rfl⟩ := hx
   obtain ⟨q, hq, rfl⟩ := he
   rw [hp] at hq
   cases hq
   exact (hat i _ hp).2.2
  have hj2 := (List.getElem?_eq_some_iff.1 hj).1
  rw [evTy.flat_len, List.length_map] at hj2
  have hk : evTy.k = 7 := rfl
  rw [hk] at hj2
  have hq : j / 7 < l.length := by omega
  have e := evTy.flat_at (l.map (·.1)) (j / 7) (j % 7) _ (by rw [List.getElem?_map, List.getElem?_eq_getElem hq]; rfl) (Nat.mod_lt _ (by decide))
  rw [hk, Nat.div_add_mod', hj] at e
  obtain ⟨g0, g1, g2, g3, g4, g5, g6⟩ := (hat (j / 7) _ (List.getElem?_eq_getElem hq)).1
  rcases (show j % 7 = 0 ∨ j % 7 = 1 ∨ j % 7 = 2 ∨ j % 7 = 3 ∨ j % 7 = 4 ∨ j % 7 = 5 ∨ j % 7 = 6 by omega) with h0 | h0 | h0 | h0 | h0 | h0 | h0
  ·
   rw [h0] at e
   rw [show j / 7 * 7 = j by omega] at g0
   rw [g0]
   exact e.symm
  ·
   rw [h0] at e
   rw [show j / 7 * 7 + 1 = j by omega] at g1
   rw [g1]
   exact e.symm
  ·
   rw [h0] at e
   rw [show j / 7 * 7 + 2 = j by omega] at g2
   rw [g2]
   exact e.symm
  ·
   rw [h0] at e
   rw [show j / 7 * 7 + 3 = j by omega] at g3
   rw [g3]
   exact e.symm
  ·
   rw [h0] at e
   rw [show j / 7 * 7 + 4 = j by omega] at g4
   rw [g4]
   exact e.symm
  ·
   rw [h0] at e
   rw [show j / 7 * 7 + 5 = j by omega] at g5
   rw [g5]
   exact e.symm
  ·
   rw [h0] at e
   rw [show j / 7 * 7 + 6 = j by omega] at g6
   rw [g6]
   exact e.symm
end
end
section
def TabN (_ : World) : Prop := True
theorem TabN.laid {W : World} (_h : laidMetH Tryz.prog tables W) : TabN W := trivial
end
end Go.Proofs.YtomgjogkkoigbaaGreatDoor
