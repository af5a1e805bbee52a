/- The document's Read of an intent. install.Bytes; the document's. -/
import Derived.Test.YtcnbgdplkobenaaGreatDoorZih
import Derived.Test.YtcnbgdplkobenaaGreatDoorZii
import Derived.Test.YtcnbgdplkobenaaGreatDoorZid
import Derived.Deep.Cut
import Derived.Deep.RegionHeld3
import Derived.Test.YtcnbgdplkobenaaGreatDoorZie
import Derived.Test.YtcnbgdplkobenaaGreatDoorZib
import Derived.Test.YtcnbgdplkobenaaGreatDoorZic
namespace Go.Proofs.YtcnbgdplkobenaaGreatDoor
section
open Go.RowKit Go.Lib
set_option linter.unusedSimpArgs false
set_option linter.unusedVariables false


set_option maxHeartbeats 4000000 in
theorem setI0 {w : World} {s0 : Nat} {a0 a1 a2 a3 a4 a5 : Value} {T : TypeId} (v0 : Value) (q0 : w.heap[s0]? = some (.cells #[a0, a1, a2, a3, a4, a5] T (0, 0))) :
    (w.setCell ⟨s0, 0, none⟩ v0).heap[s0]? = some (.cells #[v0, a1, a2, a3, a4, a5] T (0, 0)) ∧ (∀ (s1 : Nat) (o : Obj), s0 ≠ s1 → w.heap[s1]? = some o → (w.setCell ⟨s0, 0, none⟩ v0).heap[s1]? = some o) ∧ Chg [s0] w (w.setCell ⟨s0, 0, none⟩ v0) := by
  have p0 := heap_setCell_same _ s0 0 _ _ v0 q0
  refine ⟨p0, fun s1 o h q1 => ?_, ?_⟩
  · rw [Below.heap_setCell _ _ _ _ (by simp; exact fun e => h e.symm)]
    exact q1
  · exact ((Chg.refl [s0] w).put' 0 v0)
set_option maxHeartbeats 4000000 in
theorem setI5 {w : World} {s0 : Nat} {a0 a1 a2 a3 a4 a5 : Value} {T : TypeId} (v5 : Value) (q0 : w.heap[s0]? = some (.cells #[a0, a1, a2, a3, a4, a5] T (0, 0))) :
    (w.setCell ⟨s0, 5, none⟩ v5).heap[s0]? = some (.cells #[a0, a1, a2, a3, a4, v5] T (0, 0)) ∧ (∀ (s1 : Nat) (o : Obj), s0 ≠ s1 → w.heap[s1]? = some o → (w.setCell ⟨s0, 5, none⟩ v5).heap[s1]? = some o) ∧ Chg [s0] w (w.setCell ⟨s0, 5, none⟩ v5) := by
  have p0 := heap_setCell_same _ s0 5 _ _ v5 q0
  refine ⟨p0, fun s1 o h q1 => ?_, ?_⟩
  · rw [Below.heap_setCell _ _ _ _ (by simp; exact fun e => h e.symm)]
    exact q1
  · exact ((Chg.refl [s0] w).put' 5 v5)
set_option maxHeartbeats 4000000 in
theorem setI3 {w : World} {s0 : Nat} {a0 a1 a2 a3 a4 a5 : Value} {T : TypeId} (v1 v2 v3 : Value) (q0 : w.heap[s0]? = some (.cells #[a0, a1, a2, a3, a4, a5] T (0, 0))) :
    (((w.setCell ⟨s0, 1, none⟩ v1).setCell ⟨s0, 2, none⟩ v2).setCell ⟨s0, 3, none⟩ v3).heap[s0]? = some (.cells #[a0, v1, v2, v3, a4, a5] T (0, 0)) ∧ (∀ (s1 : Nat) (o : Obj), s0 ≠ s1 → w.heap[s1]? = some o → (((w.setCell ⟨s0, 1, none⟩ v1).setCell ⟨s0, 2, none⟩ v2).setCell ⟨s0, 3, none⟩ v3).heap[s1]? = some o) ∧ Chg [s0] w (((w.setCell ⟨s0, 1, none⟩ v1).setCell ⟨s0, 2, none⟩ v2).setCell ⟨s0, 3, none⟩ v3) := by
  have p0 := heap_setCell_same _ s0 1 _ _ v1 q0
  have p1 := heap_setCell_same _ s0 2 _ _ v2 p0
  have p2 := heap_setCell_same _ s0 3 _ _ v3 p1
  refine ⟨p2, fun s1 o h q1 => ?_, ?_⟩
  · rw [Below.heap_setCell _ _ _ _ (by simp; exact fun e => h e.symm), Below.heap_setCell _ _ _ _ (by simp; exact fun e => h e.symm), Below.heap_setCell _ _ _ _ (by simp; exact fun e => h e.symm)]
    exact q1
  · exact ((((Chg.refl [s0] w).put' 1 v1).put' 2 v2).put' 3 v3)
set_option maxHeartbeats 4000000 in
theorem setI4 {w : World} {s0 : Nat} {a0 a1 a2 a3 a4 a5 : Value} {T : TypeId} (v4 : Value) (q0 : w.heap[s0]? = some (.cells #[a0, a1, a2, a3, a4, a5] T (0, 0))) :
    (w.setCell ⟨s0, 4, none⟩ v4).heap[s0]? = some (.cells #[a0, a1, a2, a3, v4, a5] T (0, 0)) ∧ (∀ (s1 : Nat) (o : Obj), s0 ≠ s1 → w.heap[s1]? = some o → (w.setCell ⟨s0, 4, none⟩ v4).heap[s1]? = some o) ∧ Chg [s0] w (w.setCell ⟨s0, 4, none⟩ v4) := by
  have p0 := heap_setCell_same _ s0 4 _ _ v4 q0
  refine ⟨p0, fun s1 o h q1 => ?_, ?_⟩
  · rw [Below.heap_setCell _ _ _ _ (by simp; exact fun e => h e.symm)]
    exact q1
  · exact ((Chg.refl [s0] w).put' 4 v4)

set_option maxRecDepth 100000 in
set_option maxHeartbeats 16000000 in
theorem jnread_any (w : World) (A : Option Addr) (n c : Nat) (xs : List UInt8) (h : Bs w A n xs) (hn : n ≤ 100000) (hcc : n ≤ c ∧ c ≤ 9223372036854775807) :
    Calls Tryz.prog 11 #[.slice A n c] w (ReadIPost w (readI xs)) := by
  have hl := h.len
  subst hl
  obtain ⟨w0, hw, hc, b0, b1⟩ := news2 w (.cells #[.string ⟨#[]⟩, .int .i64 0, .int .i64 0, .slice none 0 0, .slice none 0 0, .int .i64 0] 27) (.cells #[.int .i64 0, .int .i64 0] 36)
  have W1 := Lib.hid hw
  have H := Lib.hid (h.chg hc (by simp))
  have C := Lib.hid (hc)
  have B0 := Lib.hid (b0)
  have B1 := Lib.hid (b1)
  have HN := Lib.hid (hn)
  have HCC := Lib.hid (hcc)
  generalize hv : readI xs = v
  have HV := Lib.hid hv
  clear hw hc b0 b1 h hn hv hcc
  go_enter Tryz.func11, Tryz.ntmps11
  have L01 : Hid (w.heap.size < w0.heap.size ∧ w.heap.size + 1 < w0.heap.size) := Lib.hid ⟨lt_of_heap B0.out, lt_of_heap B1.out⟩
  go_upto_region 1 with fail
  rw [← W1.out]
  generalize hz1 : w.heap.size + 1 = g1 at *
  generalize hz0 : w.heap.size = g0 at *
  have Z := Lib.hid (And.intro hz0 (hz1))
  have n01 : ¬ g0 = g1 := by omega
  have n10 : ¬ g1 = g0 := by omega
  clear W1 hz0 hz1
  go_wp2_with fail
  refine (us_open w0 w0 A c xs (Chg.refl _ _) H.out HCC.out.1 HCC.out.2 (by have := HN.out; omega)).mono ?_
  rintro e w1 ⟨b, rfl, h1⟩
  have K := Lib.hid h1
  clear h1
  obtain ⟨w1a, hw, hc, b5⟩ := news1 w1 (.cells #[.string ⟨#[]⟩, .int .i64 0, .int .i64 0, .slice none 0 0, .slice none 0 0, .int .i64 0] 27)
  have WW := Lib.hid hw
  have B5 := Lib.hid b5
  have NB5 : Hid (w1.heap.size ≠ b ∧ w0.heap.size ≤ w1.heap.size) := Lib.hid ⟨by have := K.out.ltI; omega, K.out.chg.size⟩
  replace K := Lib.hid (K.out.past hc)
  clear hw hc b5
  go_upto_region 3 with fail
  rw [← WW.out]
  generalize w1.heap.size = g5 at *
  clear WW
  have LT : Hid ((jT xs).1.length ≤ xs.length) := Lib.hid (rRaw_le K.out.2.2.2.2.1).1
  go_wp2_with fail
  have r1 := us_text w0 w1a b A c xs 0 0 0 77 K.out
  change Calls _ _ _ _ (fun r w' => r = .returned (.string (strOf (jT xs).1)) ∧ Us w0 w' b A c xs (jT xs).2.1 (jT xs).2.2.1 (jT xs).2.2.2 ∧ _) at r1
  refine r1.mono ?_
  rintro e w2 ⟨rfl, h3, hc⟩
  replace B5 := Lib.hid (hc.at_ B5.out (by simp; exact NB5.out.1))
  replace K := Lib.hid h3
  clear h3 r1 hc
  have z0 := cell_of B5.out 0
  have z1 := cell_of B5.out 1
  have z2 := cell_of B5.out 2
  have z3 := cell_of B5.out 3
  have z4 := cell_of B5.out 4
  have z5 := cell_of B5.out 5
  have fz0 := free_of B5.out 0
  have fz1 := free_of B5.out 1
  have fz2 := free_of B5.out 2
  have fz3 := free_of B5.out 3
  have fz4 := free_of B5.out 4
  have fz5 := free_of B5.out 5
  simp only [List.getElem?_toArray, List.getElem?_cons_succ, List.getElem?_cons_zero] at z0 z1 z2 z3 z4 z5
  go_upto_region 4 with fail
  clear z0 z1 z2 z3 z4 z5 fz0 fz1 fz2 fz3 fz4 fz5
  obtain ⟨p0, p1, p2⟩ := setI0 (.string (strOf (jT xs).1)) B5.out
  generalize (w2.setCell ⟨g5, 0, none⟩ (.string (strOf (jT xs).1))) = w2s at *
  replace B5 := Lib.hid p0
  replace K := Lib.hid (K.out.overI p2 (by simp; exact fun q => NB5.out.1 q.symm) (by simp; exact NB5.out.2))
  clear p0 p1 p2
  have LX : Hid ((jX xs).1.length ≤ xs.length) := Lib.hid (rRaw_le K.out.2.2.2.2.1).1
  have KL := Lib.hid (And.intro K.out.ltI (lt_of_heap B5.out))
  go_wp2_with fail
  have r1 := us_raw w0 w2s b A c xs _ _ _ 1100 K.out
  change Calls _ _ _ _ (fun r w' => ∃ A1 c1, r = .returned (.slice A1 (jX xs).1.length c1) ∧ OwnB w' A1 c1 (jX xs).1 ∧ (∀ a, A1 = some a → w2s.heap.size ≤ a.block) ∧ Us w0 w' b A c xs (jX xs).2.1 (jX xs).2.2.1 (jX xs).2.2.2 ∧ _) at r1
  refine r1.mono ?_
  rintro e w3 ⟨A6, c6, rfl, o6, n6, h3, hc⟩
  have O6 := Lib.hid o6
  replace B5 := Lib.hid (hc.at_ B5.out (by simp; exact NB5.out.1))
  have N6 : Hid (∀ a, A6 = some a → a.block ≠ b ∧ a.block ≠ g5) := Lib.hid (fun a ha => by have := n6 a ha; have := KL.out; omega)
  replace K := Lib.hid h3
  clear h3 r1 hc o6 n6
  have LP : Hid ((jP xs).1.length ≤ xs.length) := Lib.hid (rRaw_le K.out.2.2.2.2.1).1
  have KL2 := Lib.hid (And.intro K.out.ltI (lt_of_heap B5.out))
  go_wp2_with fail
  have r1 := us_raw w0 w3 b A c xs _ _ _ 40000 K.out
  change Calls _ _ _ _ (fun r w' => ∃ A1 c1, r = .returned (.slice A1 (jP xs).1.length c1) ∧ OwnB w' A1 c1 (jP xs).1 ∧ (∀ a, A1 = some a → w3.heap.size ≤ a.block) ∧ Us w0 w' b A c xs (jP xs).2.1 (jP xs).2.2.1 (jP xs).2.2.2 ∧ _) at r1
  refine r1.mono ?_
  rintro e w4 ⟨A7, c7, rfl, o7, n7, h3, hc⟩
  have O7 := Lib.hid o7
  replace B5 := Lib.hid (hc.at_ B5.out (by simp; exact NB5.out.1))
  have N7 : Hid (∀ a, A7 = some a → a.block ≠ b ∧ a.block ≠ g5) := Lib.hid (fun a ha => by have := n7 a ha; have := KL2.out; omega)
  replace O6 := Lib.hid (O6.out.chg hc (fun a ha => by simp; exact (N6.out a ha).1))
  replace K := Lib.hid h3
  clear h3 r1 hc o7 n7
  go_wp2_with fail
  have r1 := us_num w0 w4 b A c xs _ _ _ 0 1099511627776 K.out
  change Calls _ _ _ _ (fun r w' => r = .returned (.int .i64 (jN xs).1) ∧ Us w0 w' b A c xs (jN xs).2.1 (jN xs).2.2.1 (jN xs).2.2.2 ∧ _) at r1
  refine r1.mono ?_
  rintro e w5 ⟨rfl, h3, hc⟩
  replace B5 := Lib.hid (hc.at_ B5.out (by simp; exact NB5.out.1))
  replace O6 := Lib.hid (O6.out.chg hc (fun a ha => by simp; exact (N6.out a ha).1))
  replace O7 := Lib.hid (O7.out.chg hc (fun a ha => by simp; exact (N7.out a ha).1))
  replace K := Lib.hid h3
  clear h3 r1 hc
  have z0 := cell_of B5.out 0
  have z1 := cell_of B5.out 1
  have z2 := cell_of B5.out 2
  have z3 := cell_of B5.out 3
  have z4 := cell_of B5.out 4
  have z5 := cell_of B5.out 5
  have fz0 := free_of B5.out 0
  have fz1 := free_of B5.out 1
  have fz2 := free_of B5.out 2
  have fz3 := free_of B5.out 3
  have fz4 := free_of B5.out 4
  have fz5 := free_of B5.out 5
  simp only [List.getElem?_toArray, List.getElem?_cons_succ, List.getElem?_cons_zero] at z0 z1 z2 z3 z4 z5
  go_upto_region 7 with fail
  clear z0 z1 z2 z3 z4 z5 fz0 fz1 fz2 fz3 fz4 fz5
  obtain ⟨p0, p1, p2⟩ := setI5 (.int .i64 (jN xs).1) B5.out
  have o6 := O6.out.chg p2 (fun a ha => by simp; exact (N6.out a ha).2)
  have o7 := O7.out.chg p2 (fun a ha => by simp; exact (N7.out a ha).2)
  generalize (w5.setCell ⟨g5, 5, none⟩ (.int .i64 (jN xs).1)) = w5s at *
  replace O6 := Lib.hid o6
  replace O7 := Lib.hid o7
  replace B5 := Lib.hid p0
  replace K := Lib.hid (K.out.overI p2 (by simp; exact fun q => NB5.out.1 q.symm) (by simp; exact NB5.out.2))
  clear p0 p1 p2 o6 o7
  go_wp2_with fail
  have r1 := us_end w0 w5s b A c xs _ _ _ K.out
  change Calls _ _ _ _ (fun r w' => r = .returned (.agg #[.int .i64 (jF xs).1, .int .i64 (jF xs).2]) ∧ _) at r1
  refine r1.mono ?_
  rintro e w6 ⟨rfl, hc⟩
  have hd := K.out.chg.trans hc
  replace O6 := Lib.hid (O6.out.chg hc (by simp))
  replace O7 := Lib.hid (O7.out.chg hc (by simp))
  replace C := Lib.hid (C.out.trans hd)
  replace B0 := Lib.hid (hd.at_ B0.out (by simp))
  replace B1 := Lib.hid (hd.at_ B1.out (by simp))
  replace B5 := Lib.hid (hc.at_ B5.out (by simp))
  have NG5 : Hid (g0 < g5 ∧ g1 < g5) := Lib.hid (by have := NB5.out.2; have := L01.out; omega)
  clear hc hd r1 K N6 N7
  obtain ⟨w7, hw, hc, b9⟩ := news1 w6 (.cells #[.int .i64 (jF xs).1, .int .i64 (jF xs).2] 36)
  have W7 := Lib.hid hw
  have B9 := Lib.hid b9
  have Ns9 : Hid (¬ g0 = w6.heap.size ∧ ¬ g1 = w6.heap.size) := Lib.hid (by have := lt_of_heap B0.out; have := lt_of_heap B1.out; omega)
  have N59 : Hid (¬ g5 = w6.heap.size) := Lib.hid (by have := lt_of_heap B5.out; omega)
  replace C := Lib.hid (C.out.trans hc)
  replace B0 := Lib.hid (hc.at_ B0.out (by simp))
  replace B1 := Lib.hid (hc.at_ B1.out (by simp))
  replace B5 := Lib.hid (hc.at_ B5.out (by simp))
  replace O6 := Lib.hid (O6.out.chg hc (by simp))
  replace O7 := Lib.hid (O7.out.chg hc (by simp))
  clear hc
  clear hw b9
  go_upto_region 8 with fail
  rw [← W7.out]
  generalize w6.heap.size = s9 at *
  clear W7
  have y0 := cell_of B9.out 0
  have y1 := cell_of B9.out 1
  simp only [List.getElem?_toArray, List.getElem?_cons_succ, List.getElem?_cons_zero] at y0 y1
  by_cases he : (jF xs).1 = 0
  rotate_left
  · skip
    have he' : ((jF xs).1 != 0) = true := bne_iff_ne.2 he
    have e3 : ((jF xs).1 == 0) = false := beq_eq_false_iff_ne.2 he
    obtain rfl : v = (zeroI, jF xs) := by rw [← HV.out]; exact readI_fault he
    go_upto_region 9 with fail
    clear HV he he' e3
    clear y0 y1
    have n0s9 : ¬ g0 = s9 := Ns9.out.1
    have n1s9 : ¬ g1 = s9 := Ns9.out.2
    have CD := Lib.hid (Chg.refl [] w7).drew
    have C0_ := C
    replace C := Lib.hid (C.out.trans CD.out)
    replace B0 := Lib.hid (CD.out.at_ B0.out (by simp))
    replace B1 := Lib.hid (CD.out.at_ B1.out (by simp))
    have D_s9 := Lib.hid (CD.out.at_ B9.out (by simp))
    refine wp_region_held_drew (S := fun w' => w'.cell? ⟨s9, 0, none⟩ = some (.int .i64 (jF xs).1) ∧ w'.cell? ⟨s9, 1, none⟩ = some (.int .i64 (jF xs).2)) (by kernel_rfl) ⟨cell_of D_s9.out 0, cell_of D_s9.out 1⟩ (fun hHeld => ?_)
    clear CD hHeld C0_
    generalize w7.drew = wc at *
    refine sy 0 30 rfl rfl ?_ (hS := ⟨cell_of D_s9.out 0, cell_of D_s9.out 1⟩)
    try simp only [Act.put, sA, s0, s1]
    refine sy 1 31 rfl rfl ?_ (hS := ⟨cell_of D_s9.out 0, cell_of D_s9.out 1⟩) (hy := by (intro w hSw; (try dsimp only at hSw); obtain ⟨q0, q1⟩ := hSw; go_simp; try with_reducible rfl))
    try simp only [Act.put, sA, s0, s1]
    refine wpAnyH_ready (rs := [2]) (by kernel_rfl) (by simp) ?_
    refine AllReadyH.cons rfl (fun K hK => ?_) AllReadyH.nil
    replace hK := Lib.hid hK
    have t0 := cell_of B0.out 0
    have t1 := cell_of B0.out 1
    have t2 := cell_of B0.out 2
    have t3 := cell_of B0.out 3
    have t4 := cell_of B0.out 4
    have t5 := cell_of B0.out 5
    have ft0 := free_of B0.out 0
    have ft1 := free_of B0.out 1
    have ft2 := free_of B0.out 2
    have ft3 := free_of B0.out 3
    have ft4 := free_of B0.out 4
    have ft5 := free_of B0.out 5
    simp only [List.getElem?_toArray, List.getElem?_cons_succ, List.getElem?_cons_zero] at t0 t1 t2 t3 t4 t5
    go_simp
    clear t0 t1 t2 t3 t4 t5 ft0 ft1 ft2 ft3 ft4 ft5
    obtain ⟨p0, p1, p2⟩ := setI6 (.string ⟨#[]⟩) (.int .i64 0) (.int .i64 0) (.slice none 0 0) (.slice none 0 0) (.int .i64 0) B0.out
    generalize ((((((wc.setCell ⟨g0, 0, none⟩ (.string ⟨#[]⟩)).setCell ⟨g0, 1, none⟩ (.int .i64 0)).setCell ⟨g0, 2, none⟩ (.int .i64 0)).setCell ⟨g0, 3, none⟩ (.slice none 0 0)).setCell ⟨g0, 4, none⟩ (.slice none 0 0)).setCell ⟨g0, 5, none⟩ (.int .i64 0)) = wa at *
    have Q0 := Lib.hid p0
    have Q1 := Lib.hid (p1 g1 _ n01 B1.out)
    have Q_s9 := Lib.hid (p1 s9 _ n0s9 D_s9.out)
    have CA := Lib.hid p2
    clear p0 p1 p2
    refine hK.out _ _ ⟨cell_of Q_s9.out 0, cell_of Q_s9.out 1⟩ (fun hHeld => ?_)
    clear hK K
    try simp only [Act.put, sA, s0, s1]
    refine wpAnyH_ready (rs := [3]) (by kernel_rfl) (by simp) ?_
    refine AllReadyH.cons rfl (fun K hK => ?_) AllReadyH.nil
    replace hK := Lib.hid hK
    have u0 := cell_of Q1.out 0
    have u1 := cell_of Q1.out 1
    have fu0 := free_of Q1.out 0
    have fu1 := free_of Q1.out 1
    simp only [List.getElem?_toArray, List.getElem?_cons_succ, List.getElem?_cons_zero] at u0 u1
    go_simp
    clear u0 u1 fu0 fu1
    obtain ⟨p0, p1, p2⟩ := setI2 (.int .i64 (jF xs).1) (.int .i64 (jF xs).2) Q1.out
    generalize ((wa.setCell ⟨g1, 0, none⟩ (.int .i64 (jF xs).1)).setCell ⟨g1, 1, none⟩ (.int .i64 (jF xs).2)) = wz at *
    have P9 := And.intro (p1 g0 _ n10 Q0.out) p0
    have R_s9 := Lib.hid (p1 s9 _ n1s9 Q_s9.out)
    have C9 : Chg [g0, g1] wc wz := (CA.out.mono (fun i hi => .inl (by simp at hi; simp [hi]))).trans (p2.mono (fun i hi => .inl (by simp at hi; simp [hi])))
    clear p0 p1 p2
    refine hK.out _ _ ⟨cell_of R_s9.out 0, cell_of R_s9.out 1⟩ (fun hHeld => ?_)
    clear hK K
    try simp only [Act.put, sA, s0, s1]
    refine wpAnyH_done (by kernel_rfl) ?_ _
    clear hHeld
    go_wp2
    have P0 := Lib.hid P9.1
    have P1 := Lib.hid P9.2
    have t0 := cell_of P0.out 0
    have t1 := cell_of P0.out 1
    have t2 := cell_of P0.out 2
    have t3 := cell_of P0.out 3
    have t4 := cell_of P0.out 4
    have t5 := cell_of P0.out 5
    simp only [List.getElem?_toArray, List.getElem?_cons_succ, List.getElem?_cons_zero] at t0 t1 t2 t3 t4 t5
    have u0 := cell_of P1.out 0
    have u1 := cell_of P1.out 1
    simp only [List.getElem?_toArray, List.getElem?_cons_succ, List.getElem?_cons_zero] at u0 u1
    refine bodyPost_ret (v := .tuple #[.agg #[.string ⟨#[]⟩, .int .i64 0, .int .i64 0, .slice none 0 0, .slice none 0 0, .int .i64 0], .agg #[.int .i64 (jF xs).1, .int .i64 (jF xs).2]]) (by simp [results, Tryz.results11, go_sem, t0, t1, t2, t3, t4, t5, u0, u1]) rfl ?_
    refine ⟨⟨⟨#[]⟩, 0, 0, none, 0, 0, none, 0, 0, 0⟩, rfl, ⟨rfl, rfl, rfl, rfl, rfl, Bs.nil _ _, RdK.nil _ _, rfl⟩, OwnK.none_ _, by simp, C.out.trans' C9 (fun i hi => .inr (by have := Z.out; simp at hi; omega))⟩
  have he' : ((jF xs).1 != 0) = false := by simpa using he
  have FZ := Lib.hid (jF_zero he)
  have HE := Lib.hid he
  clear he
  go_wp2_with fail
  clear he'
  clear y0 y1
  refine (fread_any w7 A6 _ c6 (jX xs).1 O6.out.reads (by have := LX.out; have := HN.out; omega) O6.out.cap.1 (by have := O6.out.cap.2; unfold maxLen at this; omega)).mono ?_
  rintro e w8 ⟨A10, c10, rfl, h10⟩
  have hc := h10.2.2
  have O10 := Lib.hid h10.1
  have N10 : Hid (∀ a, A10 = some a → g0 < a.block ∧ g1 < a.block ∧ g5 < a.block) := Lib.hid (fun a ha => by have := h10.2.1 a ha; have := lt_of_heap B0.out; have := lt_of_heap B1.out; have := lt_of_heap B5.out; omega)
  replace C := Lib.hid (C.out.trans hc)
  replace B0 := Lib.hid (hc.at_ B0.out (by simp))
  replace B1 := Lib.hid (hc.at_ B1.out (by simp))
  replace B5 := Lib.hid (hc.at_ B5.out (by simp))
  replace O7 := Lib.hid (O7.out.chg hc (by simp))
  replace B9 := Lib.hid (hc.at_ B9.out (by simp))
  clear hc
  clear h10 O6
  have REL : Hid ((readE (jX xs).1).1.2.2.length ≤ (jX xs).1.length) := Lib.hid (readE_lenI _)
  obtain ⟨RE, hRE⟩ : ∃ q, readE (jX xs).1 = q := ⟨_, rfl⟩
  have HRE := Lib.hid hRE
  rw [hRE] at O10 REL ⊢
  clear hRE
  obtain ⟨w9, hw, hc, b10, b11⟩ := news2 w8 (.cells #[.int .i64 RE.1.1, .int .i64 RE.1.2.1, .slice A10 RE.1.2.2.length c10] 24) (.cells #[.int .i64 RE.2.1, .int .i64 RE.2.2] 36)
  have W9 := Lib.hid hw
  have B10 := Lib.hid b10
  have B11 := Lib.hid b11
  have N510 : Hid (¬ g5 = w8.heap.size ∧ ¬ g5 = w8.heap.size + 1) := Lib.hid (by have := lt_of_heap B5.out; omega)
  replace C := Lib.hid (C.out.trans hc)
  replace B0 := Lib.hid (hc.at_ B0.out (by simp))
  replace B1 := Lib.hid (hc.at_ B1.out (by simp))
  replace B5 := Lib.hid (hc.at_ B5.out (by simp))
  replace O7 := Lib.hid (O7.out.chg hc (by simp))
  replace O10 := Lib.hid (O10.out.chg hc (by simp))
  replace B9 := Lib.hid (hc.at_ B9.out (by simp))
  clear hc
  clear hw b10 b11
  go_upto_region 11 with fail
  rw [← W9.out]
  generalize w8.heap.size + 1 = s11 at *
  generalize w8.heap.size = s10 at *
  clear W9
  go_wp2_with fail
  refine (qread_any w9 A7 _ c7 (jP xs).1 O7.out.reads (by have := LP.out; have := HN.out; omega) O7.out.cap.1 (by have := O7.out.cap.2; unfold maxLen at this; omega)).mono ?_
  rintro e wa ⟨A13, c13, rfl, hO, hN, hc⟩
  have P13 := Lib.hid hO
  have N13 : Hid (∀ a, A13 = some a → g0 < a.block ∧ g1 < a.block ∧ g5 < a.block) := Lib.hid (fun a ha => by have := hN a ha; have := lt_of_heap B0.out; have := lt_of_heap B1.out; have := lt_of_heap B5.out; omega)
  replace C := Lib.hid (C.out.trans hc)
  replace B0 := Lib.hid (hc.at_ B0.out (by simp))
  replace B1 := Lib.hid (hc.at_ B1.out (by simp))
  replace B5 := Lib.hid (hc.at_ B5.out (by simp))
  replace O10 := Lib.hid (O10.out.chg hc (by simp))
  replace B9 := Lib.hid (hc.at_ B9.out (by simp))
  replace B10 := Lib.hid (hc.at_ B10.out (by simp))
  replace B11 := Lib.hid (hc.at_ B11.out (by simp))
  clear hc
  clear hO hN O7
  have QL : Hid ((readS (jP xs).1).1.length ≤ (jP xs).1.length) := Lib.hid (readS_bytes _)
  obtain ⟨QE, hQE⟩ : ∃ q, readS (jP xs).1 = q := ⟨_, rfl⟩
  have HQE := Lib.hid hQE
  rw [hQE] at P13 QL ⊢
  clear hQE
  obtain ⟨wb, hw, hc, b13⟩ := news1 wa (.cells #[.int .i64 QE.2.1, .int .i64 QE.2.2] 36)
  have WB := Lib.hid hw
  have B13 := Lib.hid b13
  have N513 : Hid (¬ g5 = wa.heap.size) := Lib.hid (by have := lt_of_heap B5.out; omega)
  replace C := Lib.hid (C.out.trans hc)
  replace B0 := Lib.hid (hc.at_ B0.out (by simp))
  replace B1 := Lib.hid (hc.at_ B1.out (by simp))
  replace B5 := Lib.hid (hc.at_ B5.out (by simp))
  replace O10 := Lib.hid (O10.out.chg hc (by simp))
  replace P13 := Lib.hid (P13.out.chg hc (by simp))
  replace B9 := Lib.hid (hc.at_ B9.out (by simp))
  replace B10 := Lib.hid (hc.at_ B10.out (by simp))
  replace B11 := Lib.hid (hc.at_ B11.out (by simp))
  clear hc
  clear hw b13
  go_upto_region 12 with fail
  rw [← WB.out]
  generalize wa.heap.size = s13 at *
  clear WB
  have x0 := cell_of B5.out 0
  have x1 := cell_of B5.out 1
  have x2 := cell_of B5.out 2
  have x3 := cell_of B5.out 3
  have x4 := cell_of B5.out 4
  have x5 := cell_of B5.out 5
  have fx0 := free_of B5.out 0
  have fx1 := free_of B5.out 1
  have fx2 := free_of B5.out 2
  have fx3 := free_of B5.out 3
  have fx4 := free_of B5.out 4
  have fx5 := free_of B5.out 5
  simp only [List.getElem?_toArray, List.getElem?_cons_succ, List.getElem?_cons_zero] at x0 x1 x2 x3 x4 x5
  have z0 := cell_of B10.out 0
  have z1 := cell_of B10.out 1
  have z2 := cell_of B10.out 2
  simp only [List.getElem?_toArray, List.getElem?_cons_succ, List.getElem?_cons_zero] at z0 z1 z2
  go_upto_region 13 with fail
  clear x0 x1 x2 x3 x4 x5 fx0 fx1 fx2 fx3 fx4 fx5
  clear z0 z1 z2
  obtain ⟨p0, p1, p2⟩ := setI3 (.int .i64 RE.1.1) (.int .i64 RE.1.2.1) (.slice A10 RE.1.2.2.length c10) B5.out
  have q0 := p1 g0 _ (by have := NG5.out; omega) B0.out
  have q1 := p1 g1 _ (by have := NG5.out; omega) B1.out
  have q9 := p1 s9 _ N59.out B9.out
  have q10 := p1 s10 _ N510.out.1 B10.out
  have q11 := p1 s11 _ N510.out.2 B11.out
  have q13 := p1 s13 _ N513.out B13.out
  have o10 := O10.out.chg p2 (fun a ha => by have := N10.out a ha; simp; omega)
  have p13 := P13.out.chg p2 (fun a ha => by have := N13.out a ha; simp; omega)
  have c0 := C.out.trans' p2 (fun i hi => .inr (by have := Z.out; have := NG5.out; simp at hi; omega))
  generalize (((wb.setCell ⟨g5, 1, none⟩ (.int .i64 RE.1.1)).setCell ⟨g5, 2, none⟩ (.int .i64 RE.1.2.1)).setCell ⟨g5, 3, none⟩ (.slice A10 RE.1.2.2.length c10)) = wbs at *
  replace B5 := Lib.hid p0
  replace B0 := Lib.hid q0
  replace B1 := Lib.hid q1
  replace B9 := Lib.hid q9
  replace B10 := Lib.hid q10
  replace B11 := Lib.hid q11
  replace B13 := Lib.hid q13
  replace O10 := Lib.hid o10
  replace P13 := Lib.hid p13
  replace C := Lib.hid c0
  clear p0 p1 p2 q0 q1 q9 q10 q11 q13 o10 p13 c0
  have x0 := cell_of B5.out 0
  have x1 := cell_of B5.out 1
  have x2 := cell_of B5.out 2
  have x3 := cell_of B5.out 3
  have x4 := cell_of B5.out 4
  have x5 := cell_of B5.out 5
  have fx0 := free_of B5.out 0
  have fx1 := free_of B5.out 1
  have fx2 := free_of B5.out 2
  have fx3 := free_of B5.out 3
  have fx4 := free_of B5.out 4
  have fx5 := free_of B5.out 5
  simp only [List.getElem?_toArray, List.getElem?_cons_succ, List.getElem?_cons_zero] at x0 x1 x2 x3 x4 x5
  go_upto_region 14 with fail
  clear x0 x1 x2 x3 x4 x5 fx0 fx1 fx2 fx3 fx4 fx5
  obtain ⟨p0, p1, p2⟩ := setI4 (.slice A13 QE.1.length c13) B5.out
  have q0 := p1 g0 _ (by have := NG5.out; omega) B0.out
  have q1 := p1 g1 _ (by have := NG5.out; omega) B1.out
  have q9 := p1 s9 _ N59.out B9.out
  have q10 := p1 s10 _ N510.out.1 B10.out
  have q11 := p1 s11 _ N510.out.2 B11.out
  have q13 := p1 s13 _ N513.out B13.out
  have o10 := O10.out.chg p2 (fun a ha => by have := N10.out a ha; simp; omega)
  have p13 := P13.out.chg p2 (fun a ha => by have := N13.out a ha; simp; omega)
  have c0 := C.out.trans' p2 (fun i hi => .inr (by have := Z.out; have := NG5.out; simp at hi; omega))
  generalize (wbs.setCell ⟨g5, 4, none⟩ (.slice A13 QE.1.length c13)) = wd at *
  replace B5 := Lib.hid p0
  replace B0 := Lib.hid q0
  replace B1 := Lib.hid q1
  replace B9 := Lib.hid q9
  replace B10 := Lib.hid q10
  replace B11 := Lib.hid q11
  replace B13 := Lib.hid q13
  replace O10 := Lib.hid o10
  replace P13 := Lib.hid p13
  replace C := Lib.hid c0
  clear p0 p1 p2 q0 q1 q9 q10 q11 q13 o10 p13 c0
  have eo : inOf xs = ⟨(jT xs).1, RE.1.1, RE.1.2.1, RE.1.2.2, QE.1, (jN xs).1⟩ := by unfold inOf; rw [HRE.out, HQE.out]
  have EO := Lib.hid eo
  clear eo
  have ER : Hid (InR wd ⟨strOf (jT xs).1, RE.1.1, RE.1.2.1, A10, RE.1.2.2.length, c10, A13, QE.1.length, c13, (jN xs).1⟩ (inOf xs)) := Lib.hid (by
    rw [EO.out]
    exact ⟨rfl, rfl, rfl, rfl, rfl, O10.out.reads, P13.out.reads, rfl⟩)
  have ES : Hid (InSm (inOf xs)) := Lib.hid (by
    rw [EO.out]
    unfold InSm
    have a1 := HN.out
    have a2 := LT.out
    have a3 := LX.out
    have a4 := LP.out
    have a5 := REL.out
    have a6 := QL.out
    simp only
    omega)
  by_cases k1 : RE.2.1 = 0
  rotate_left
  · skip
    have k1b : (RE.2.1 != 0) = true := bne_iff_ne.2 k1
    have k1c : (RE.2.1 == 0) = false := beq_eq_false_iff_ne.2 k1
    have u0 := cell_of B11.out 0
    have t0 := cell_of B13.out 0
    simp only [List.getElem?_toArray, List.getElem?_cons_succ, List.getElem?_cons_zero] at u0 t0
    obtain rfl : v = (zeroI, (2, 0)) := by rw [← HV.out]; exact readI_bad HE.out (fun q => k1 (by have r := q.1; rw [HRE.out] at r; exact r))
    go_upto_region 15 with fail
    clear HV u0 t0 k1b k1c k1
    have t0 := cell_of B0.out 0
    have t1 := cell_of B0.out 1
    have t2 := cell_of B0.out 2
    have t3 := cell_of B0.out 3
    have t4 := cell_of B0.out 4
    have t5 := cell_of B0.out 5
    have ft0 := free_of B0.out 0
    have ft1 := free_of B0.out 1
    have ft2 := free_of B0.out 2
    have ft3 := free_of B0.out 3
    have ft4 := free_of B0.out 4
    have ft5 := free_of B0.out 5
    simp only [List.getElem?_toArray, List.getElem?_cons_succ, List.getElem?_cons_zero] at t0 t1 t2 t3 t4 t5
    have u0 := cell_of B1.out 0
    have u1 := cell_of B1.out 1
    have fu0 := free_of B1.out 0
    have fu1 := free_of B1.out 1
    simp only [List.getElem?_toArray, List.getElem?_cons_succ, List.getElem?_cons_zero] at u0 u1
    go_wp2
    clear t0 t1 t2 t3 t4 t5 ft0 ft1 ft2 ft3 ft4 ft5
    clear u0 u1 fu0 fu1
    have P9 := put62 (.string ⟨#[]⟩) (.int .i64 0) (.int .i64 0) (.slice none 0 0) (.slice none 0 0) (.int .i64 0) (.int .i64 2) (.int .i64 0) B0.out B1.out n01
    have C9 : Chg [g0, g1] wd ((((((((wd.setCell ⟨g0, 0, none⟩ (.string ⟨#[]⟩)).setCell ⟨g0, 1, none⟩ (.int .i64 0)).setCell ⟨g0, 2, none⟩ (.int .i64 0)).setCell ⟨g0, 3, none⟩ (.slice none 0 0)).setCell ⟨g0, 4, none⟩ (.slice none 0 0)).setCell ⟨g0, 5, none⟩ (.int .i64 0)).setCell ⟨g1, 0, none⟩ (.int .i64 2)).setCell ⟨g1, 1, none⟩ (.int .i64 0)) := (((((((((Chg.refl [g0, g1] wd).setCell (p := ⟨g0, 0, none⟩) (.inl (by simp)) _).setCell (p := ⟨g0, 1, none⟩) (.inl (by simp)) _).setCell (p := ⟨g0, 2, none⟩) (.inl (by simp)) _).setCell (p := ⟨g0, 3, none⟩) (.inl (by simp)) _).setCell (p := ⟨g0, 4, none⟩) (.inl (by simp)) _).setCell (p := ⟨g0, 5, none⟩) (.inl (by simp)) _).setCell (p := ⟨g1, 0, none⟩) (.inl (by simp)) _).setCell (p := ⟨g1, 1, none⟩) (.inl (by simp)) _)
    generalize ((((((((wd.setCell ⟨g0, 0, none⟩ (.string ⟨#[]⟩)).setCell ⟨g0, 1, none⟩ (.int .i64 0)).setCell ⟨g0, 2, none⟩ (.int .i64 0)).setCell ⟨g0, 3, none⟩ (.slice none 0 0)).setCell ⟨g0, 4, none⟩ (.slice none 0 0)).setCell ⟨g0, 5, none⟩ (.int .i64 0)).setCell ⟨g1, 0, none⟩ (.int .i64 2)).setCell ⟨g1, 1, none⟩ (.int .i64 0)) = wz at *
    have P0 := Lib.hid P9.1
    have P1 := Lib.hid P9.2
    have t0 := cell_of P0.out 0
    have t1 := cell_of P0.out 1
    have t2 := cell_of P0.out 2
    have t3 := cell_of P0.out 3
    have t4 := cell_of P0.out 4
    have t5 := cell_of P0.out 5
    simp only [List.getElem?_toArray, List.getElem?_cons_succ, List.getElem?_cons_zero] at t0 t1 t2 t3 t4 t5
    have u0 := cell_of P1.out 0
    have u1 := cell_of P1.out 1
    simp only [List.getElem?_toArray, List.getElem?_cons_succ, List.getElem?_cons_zero] at u0 u1
    refine bodyPost_ret (v := .tuple #[.agg #[.string ⟨#[]⟩, .int .i64 0, .int .i64 0, .slice none 0 0, .slice none 0 0, .int .i64 0], .agg #[.int .i64 2, .int .i64 0]]) (by simp [results, Tryz.results11, go_sem, t0, t1, t2, t3, t4, t5, u0, u1]) rfl ?_
    refine ⟨⟨⟨#[]⟩, 0, 0, none, 0, 0, none, 0, 0, 0⟩, rfl, ⟨rfl, rfl, rfl, rfl, rfl, Bs.nil _ _, RdK.nil _ _, rfl⟩, OwnK.none_ _, by simp, C.out.trans' C9 (fun i hi => .inr (by have := Z.out; simp at hi; omega))⟩
  by_cases k2 : QE.2.1 = 0
  rotate_left
  · skip
    have k2b : (QE.2.1 != 0) = true := bne_iff_ne.2 k2
    have k2c : (QE.2.1 == 0) = false := beq_eq_false_iff_ne.2 k2
    have u0 := cell_of B11.out 0
    have t0 := cell_of B13.out 0
    simp only [List.getElem?_toArray, List.getElem?_cons_succ, List.getElem?_cons_zero] at u0 t0
    rw [k1] at u0
    obtain rfl : v = (zeroI, (2, 0)) := by rw [← HV.out]; exact readI_bad HE.out (fun q => k2 (by have r := q.2.1; rw [HQE.out] at r; exact r))
    go_upto_region 15 with fail
    clear HV u0 t0 k2b k2c k2 k1
    have t0 := cell_of B0.out 0
    have t1 := cell_of B0.out 1
    have t2 := cell_of B0.out 2
    have t3 := cell_of B0.out 3
    have t4 := cell_of B0.out 4
    have t5 := cell_of B0.out 5
    have ft0 := free_of B0.out 0
    have ft1 := free_of B0.out 1
    have ft2 := free_of B0.out 2
    have ft3 := free_of B0.out 3
    have ft4 := free_of B0.out 4
    have ft5 := free_of B0.out 5
    simp only [List.getElem?_toArray, List.getElem?_cons_succ, List.getElem?_cons_zero] at t0 t1 t2 t3 t4 t5
    have u0 := cell_of B1.out 0
    have u1 := cell_of B1.out 1
    have fu0 := free_of B1.out 0
    have fu1 := free_of B1.out 1
    simp only [List.getElem?_toArray, List.getElem?_cons_succ, List.getElem?_cons_zero] at u0 u1
    go_wp2
    clear t0 t1 t2 t3 t4 t5 ft0 ft1 ft2 ft3 ft4 ft5
    clear u0 u1 fu0 fu1
    have P9 := put62 (.string ⟨#[]⟩) (.int .i64 0) (.int .i64 0) (.slice none 0 0) (.slice none 0 0) (.int .i64 0) (.int .i64 2) (.int .i64 0) B0.out B1.out n01
    have C9 : Chg [g0, g1] wd ((((((((wd.setCell ⟨g0, 0, none⟩ (.string ⟨#[]⟩)).setCell ⟨g0, 1, none⟩ (.int .i64 0)).setCell ⟨g0, 2, none⟩ (.int .i64 0)).setCell ⟨g0, 3, none⟩ (.slice none 0 0)).setCell ⟨g0, 4, none⟩ (.slice none 0 0)).setCell ⟨g0, 5, none⟩ (.int .i64 0)).setCell ⟨g1, 0, none⟩ (.int .i64 2)).setCell ⟨g1, 1, none⟩ (.int .i64 0)) := (((((((((Chg.refl [g0, g1] wd).setCell (p := ⟨g0, 0, none⟩) (.inl (by simp)) _).setCell (p := ⟨g0, 1, none⟩) (.inl (by simp)) _).setCell (p := ⟨g0, 2, none⟩) (.inl (by simp)) _).setCell (p := ⟨g0, 3, none⟩) (.inl (by simp)) _).setCell (p := ⟨g0, 4, none⟩) (.inl (by simp)) _).setCell (p := ⟨g0, 5, none⟩) (.inl (by simp)) _).setCell (p := ⟨g1, 0, none⟩) (.inl (by simp)) _).setCell (p := ⟨g1, 1, none⟩) (.inl (by simp)) _)
    generalize ((((((((wd.setCell ⟨g0, 0, none⟩ (.string ⟨#[]⟩)).setCell ⟨g0, 1, none⟩ (.int .i64 0)).setCell ⟨g0, 2, none⟩ (.int .i64 0)).setCell ⟨g0, 3, none⟩ (.slice none 0 0)).setCell ⟨g0, 4, none⟩ (.slice none 0 0)).setCell ⟨g0, 5, none⟩ (.int .i64 0)).setCell ⟨g1, 0, none⟩ (.int .i64 2)).setCell ⟨g1, 1, none⟩ (.int .i64 0)) = wz at *
    have P0 := Lib.hid P9.1
    have P1 := Lib.hid P9.2
    have t0 := cell_of P0.out 0
    have t1 := cell_of P0.out 1
    have t2 := cell_of P0.out 2
    have t3 := cell_of P0.out 3
    have t4 := cell_of P0.out 4
    have t5 := cell_of P0.out 5
    simp only [List.getElem?_toArray, List.getElem?_cons_succ, List.getElem?_cons_zero] at t0 t1 t2 t3 t4 t5
    have u0 := cell_of P1.out 0
    have u1 := cell_of P1.out 1
    simp only [List.getElem?_toArray, List.getElem?_cons_succ, List.getElem?_cons_zero] at u0 u1
    refine bodyPost_ret (v := .tuple #[.agg #[.string ⟨#[]⟩, .int .i64 0, .int .i64 0, .slice none 0 0, .slice none 0 0, .int .i64 0], .agg #[.int .i64 2, .int .i64 0]]) (by simp [results, Tryz.results11, go_sem, t0, t1, t2, t3, t4, t5, u0, u1]) rfl ?_
    refine ⟨⟨⟨#[]⟩, 0, 0, none, 0, 0, none, 0, 0, 0⟩, rfl, ⟨rfl, rfl, rfl, rfl, rfl, Bs.nil _ _, RdK.nil _ _, rfl⟩, OwnK.none_ _, by simp, C.out.trans' C9 (fun i hi => .inr (by have := Z.out; simp at hi; omega))⟩
  have u0 := cell_of B11.out 0
  have t0 := cell_of B13.out 0
  simp only [List.getElem?_toArray, List.getElem?_cons_succ, List.getElem?_cons_zero] at u0 t0
  rw [k1] at u0
  rw [k2] at t0
  have z0 := cell_of B5.out 0
  have z1 := cell_of B5.out 1
  have z2 := cell_of B5.out 2
  have z3 := cell_of B5.out 3
  have z4 := cell_of B5.out 4
  have z5 := cell_of B5.out 5
  simp only [List.getElem?_toArray, List.getElem?_cons_succ, List.getElem?_cons_zero] at z0 z1 z2 z3 z4 z5
  go_wp2_with fail
  refine (jncheck_any wd ⟨strOf (jT xs).1, RE.1.1, RE.1.2.1, A10, RE.1.2.2.length, c10, A13, QE.1.length, c13, (jN xs).1⟩ (inOf xs) ER.out ES.out).mono ?_
  rintro r we ⟨rfl, hc⟩
  clear z0 z1 z2 z3 z4 z5
  clear u0 t0
  replace ER := Lib.hid (ER.out.chg hc)
  replace C := Lib.hid (C.out.trans hc)
  replace B0 := Lib.hid (hc.at_ B0.out (by simp))
  replace B1 := Lib.hid (hc.at_ B1.out (by simp))
  replace B5 := Lib.hid (hc.at_ B5.out (by simp))
  replace O10 := Lib.hid (O10.out.chg hc (by simp))
  replace P13 := Lib.hid (P13.out.chg hc (by simp))
  replace B9 := Lib.hid (hc.at_ B9.out (by simp))
  clear hc
  rcases chkI_two (inOf xs) with k3 | k3
  rotate_left
  · skip
    rw [k3]
    obtain rfl : v = (zeroI, (2, 0)) := by rw [← HV.out]; exact readI_bad HE.out (fun q => absurd (k3.symm.trans q.2.2) (by decide))
    go_upto_region 15 with fail
    clear HV k3 k1 k2
    have t0 := cell_of B0.out 0
    have t1 := cell_of B0.out 1
    have t2 := cell_of B0.out 2
    have t3 := cell_of B0.out 3
    have t4 := cell_of B0.out 4
    have t5 := cell_of B0.out 5
    have ft0 := free_of B0.out 0
    have ft1 := free_of B0.out 1
    have ft2 := free_of B0.out 2
    have ft3 := free_of B0.out 3
    have ft4 := free_of B0.out 4
    have ft5 := free_of B0.out 5
    simp only [List.getElem?_toArray, List.getElem?_cons_succ, List.getElem?_cons_zero] at t0 t1 t2 t3 t4 t5
    have u0 := cell_of B1.out 0
    have u1 := cell_of B1.out 1
    have fu0 := free_of B1.out 0
    have fu1 := free_of B1.out 1
    simp only [List.getElem?_toArray, List.getElem?_cons_succ, List.getElem?_cons_zero] at u0 u1
    go_wp2
    clear t0 t1 t2 t3 t4 t5 ft0 ft1 ft2 ft3 ft4 ft5
    clear u0 u1 fu0 fu1
    have P9 := put62 (.string ⟨#[]⟩) (.int .i64 0) (.int .i64 0) (.slice none 0 0) (.slice none 0 0) (.int .i64 0) (.int .i64 2) (.int .i64 0) B0.out B1.out n01
    have C9 : Chg [g0, g1] we ((((((((we.setCell ⟨g0, 0, none⟩ (.string ⟨#[]⟩)).setCell ⟨g0, 1, none⟩ (.int .i64 0)).setCell ⟨g0, 2, none⟩ (.int .i64 0)).setCell ⟨g0, 3, none⟩ (.slice none 0 0)).setCell ⟨g0, 4, none⟩ (.slice none 0 0)).setCell ⟨g0, 5, none⟩ (.int .i64 0)).setCell ⟨g1, 0, none⟩ (.int .i64 2)).setCell ⟨g1, 1, none⟩ (.int .i64 0)) := (((((((((Chg.refl [g0, g1] we).setCell (p := ⟨g0, 0, none⟩) (.inl (by simp)) _).setCell (p := ⟨g0, 1, none⟩) (.inl (by simp)) _).setCell (p := ⟨g0, 2, none⟩) (.inl (by simp)) _).setCell (p := ⟨g0, 3, none⟩) (.inl (by simp)) _).setCell (p := ⟨g0, 4, none⟩) (.inl (by simp)) _).setCell (p := ⟨g0, 5, none⟩) (.inl (by simp)) _).setCell (p := ⟨g1, 0, none⟩) (.inl (by simp)) _).setCell (p := ⟨g1, 1, none⟩) (.inl (by simp)) _)
    generalize ((((((((we.setCell ⟨g0, 0, none⟩ (.string ⟨#[]⟩)).setCell ⟨g0, 1, none⟩ (.int .i64 0)).setCell ⟨g0, 2, none⟩ (.int .i64 0)).setCell ⟨g0, 3, none⟩ (.slice none 0 0)).setCell ⟨g0, 4, none⟩ (.slice none 0 0)).setCell ⟨g0, 5, none⟩ (.int .i64 0)).setCell ⟨g1, 0, none⟩ (.int .i64 2)).setCell ⟨g1, 1, none⟩ (.int .i64 0)) = wz at *
    have P0 := Lib.hid P9.1
    have P1 := Lib.hid P9.2
    have t0 := cell_of P0.out 0
    have t1 := cell_of P0.out 1
    have t2 := cell_of P0.out 2
    have t3 := cell_of P0.out 3
    have t4 := cell_of P0.out 4
    have t5 := cell_of P0.out 5
    simp only [List.getElem?_toArray, List.getElem?_cons_succ, List.getElem?_cons_zero] at t0 t1 t2 t3 t4 t5
    have u0 := cell_of P1.out 0
    have u1 := cell_of P1.out 1
    simp only [List.getElem?_toArray, List.getElem?_cons_succ, List.getElem?_cons_zero] at u0 u1
    refine bodyPost_ret (v := .tuple #[.agg #[.string ⟨#[]⟩, .int .i64 0, .int .i64 0, .slice none 0 0, .slice none 0 0, .int .i64 0], .agg #[.int .i64 2, .int .i64 0]]) (by simp [results, Tryz.results11, go_sem, t0, t1, t2, t3, t4, t5, u0, u1]) rfl ?_
    refine ⟨⟨⟨#[]⟩, 0, 0, none, 0, 0, none, 0, 0, 0⟩, rfl, ⟨rfl, rfl, rfl, rfl, rfl, Bs.nil _ _, RdK.nil _ _, rfl⟩, OwnK.none_ _, by simp, C.out.trans' C9 (fun i hi => .inr (by have := Z.out; simp at hi; omega))⟩
  rw [k3]
  obtain rfl : v = (inOf xs, (0, 0)) := by rw [← HV.out]; exact readI_good HE.out ⟨by rw [HRE.out]; exact k1, by rw [HQE.out]; exact k2, k3⟩
  clear k1 k2 k3
  go_upto_region 16 with fail
  clear HV
  have B9z : Hid (we.heap[s9]? = some (.cells #[.int .i64 0, .int .i64 0] 36 (0, 0))) := Lib.hid (by have := B9.out; rw [HE.out, FZ.out] at this; exact this)
  have n0g5 : ¬ g0 = g5 := by have := NG5.out; omega
  have n1g5 : ¬ g1 = g5 := by have := NG5.out; omega
  have n0s9 : ¬ g0 = s9 := Ns9.out.1
  have n1s9 : ¬ g1 = s9 := Ns9.out.2
  have CD := Lib.hid (Chg.refl [] we).drew
  have C0_ := C
  replace C := Lib.hid (C.out.trans CD.out)
  replace B0 := Lib.hid (CD.out.at_ B0.out (by simp))
  replace B1 := Lib.hid (CD.out.at_ B1.out (by simp))
  have D_g5 := Lib.hid (CD.out.at_ B5.out (by simp))
  have D_s9 := Lib.hid (CD.out.at_ B9z.out (by simp))
  replace ER := Lib.hid (ER.out.chg CD.out)
  replace P13 := Lib.hid (P13.out.chg CD.out (by simp))
  refine wp_region_held_drew (S := fun w' => w'.cell? ⟨g5, 0, none⟩ = some (.string (strOf (jT xs).1)) ∧ w'.cell? ⟨g5, 1, none⟩ = some (.int .i64 RE.1.1) ∧ w'.cell? ⟨g5, 2, none⟩ = some (.int .i64 RE.1.2.1) ∧ w'.cell? ⟨g5, 3, none⟩ = some (.slice A10 RE.1.2.2.length c10) ∧ w'.cell? ⟨g5, 4, none⟩ = some (.slice A13 QE.1.length c13) ∧ w'.cell? ⟨g5, 5, none⟩ = some (.int .i64 (jN xs).1) ∧ w'.cell? ⟨s9, 0, none⟩ = some (.int .i64 0) ∧ w'.cell? ⟨s9, 1, none⟩ = some (.int .i64 0)) (by kernel_rfl) ⟨cell_of D_g5.out 0, cell_of D_g5.out 1, cell_of D_g5.out 2, cell_of D_g5.out 3, cell_of D_g5.out 4, cell_of D_g5.out 5, cell_of D_s9.out 0, cell_of D_s9.out 1⟩ (fun hHeld => ?_)
  clear CD hHeld C0_
  generalize we.drew = wc at *
  refine sy 0 61 rfl rfl ?_ (hS := ⟨cell_of D_g5.out 0, cell_of D_g5.out 1, cell_of D_g5.out 2, cell_of D_g5.out 3, cell_of D_g5.out 4, cell_of D_g5.out 5, cell_of D_s9.out 0, cell_of D_s9.out 1⟩) (hy := by (intro w hSw; (try dsimp only at hSw); obtain ⟨q0, q1, q2, q3, q4, q5, q6, q7⟩ := hSw; go_simp; try with_reducible rfl))
  try simp only [Act.put, sA, s0, s1]
  refine sy 1 62 rfl rfl ?_ (hS := ⟨cell_of D_g5.out 0, cell_of D_g5.out 1, cell_of D_g5.out 2, cell_of D_g5.out 3, cell_of D_g5.out 4, cell_of D_g5.out 5, cell_of D_s9.out 0, cell_of D_s9.out 1⟩) (hy := by (intro w hSw; (try dsimp only at hSw); obtain ⟨q0, q1, q2, q3, q4, q5, q6, q7⟩ := hSw; go_simp; try with_reducible rfl))
  try simp only [Act.put, sA, s0, s1]
  refine wpAnyH_ready (rs := [2]) (by kernel_rfl) (by simp) ?_
  refine AllReadyH.cons rfl (fun K hK => ?_) AllReadyH.nil
  replace hK := Lib.hid hK
  have t0 := cell_of B0.out 0
  have t1 := cell_of B0.out 1
  have t2 := cell_of B0.out 2
  have t3 := cell_of B0.out 3
  have t4 := cell_of B0.out 4
  have t5 := cell_of B0.out 5
  have ft0 := free_of B0.out 0
  have ft1 := free_of B0.out 1
  have ft2 := free_of B0.out 2
  have ft3 := free_of B0.out 3
  have ft4 := free_of B0.out 4
  have ft5 := free_of B0.out 5
  simp only [List.getElem?_toArray, List.getElem?_cons_succ, List.getElem?_cons_zero] at t0 t1 t2 t3 t4 t5
  go_simp
  clear t0 t1 t2 t3 t4 t5 ft0 ft1 ft2 ft3 ft4 ft5
  obtain ⟨p0, p1, p2⟩ := setI6 (.string (strOf (jT xs).1)) (.int .i64 RE.1.1) (.int .i64 RE.1.2.1) (.slice A10 RE.1.2.2.length c10) (.slice A13 QE.1.length c13) (.int .i64 (jN xs).1) B0.out
  generalize ((((((wc.setCell ⟨g0, 0, none⟩ (.string (strOf (jT xs).1))).setCell ⟨g0, 1, none⟩ (.int .i64 RE.1.1)).setCell ⟨g0, 2, none⟩ (.int .i64 RE.1.2.1)).setCell ⟨g0, 3, none⟩ (.slice A10 RE.1.2.2.length c10)).setCell ⟨g0, 4, none⟩ (.slice A13 QE.1.length c13)).setCell ⟨g0, 5, none⟩ (.int .i64 (jN xs).1)) = wa at *
  have Q0 := Lib.hid p0
  have Q1 := Lib.hid (p1 g1 _ n01 B1.out)
  have Q_g5 := Lib.hid (p1 g5 _ n0g5 D_g5.out)
  have Q_s9 := Lib.hid (p1 s9 _ n0s9 D_s9.out)
  have CA := Lib.hid p2
  clear p0 p1 p2
  refine hK.out _ _ ⟨cell_of Q_g5.out 0, cell_of Q_g5.out 1, cell_of Q_g5.out 2, cell_of Q_g5.out 3, cell_of Q_g5.out 4, cell_of Q_g5.out 5, cell_of Q_s9.out 0, cell_of Q_s9.out 1⟩ (fun hHeld => ?_)
  clear hK K
  try simp only [Act.put, sA, s0, s1]
  refine wpAnyH_ready (rs := [3]) (by kernel_rfl) (by simp) ?_
  refine AllReadyH.cons rfl (fun K hK => ?_) AllReadyH.nil
  replace hK := Lib.hid hK
  have u0 := cell_of Q1.out 0
  have u1 := cell_of Q1.out 1
  have fu0 := free_of Q1.out 0
  have fu1 := free_of Q1.out 1
  simp only [List.getElem?_toArray, List.getElem?_cons_succ, List.getElem?_cons_zero] at u0 u1
  go_simp
  clear u0 u1 fu0 fu1
  obtain ⟨p0, p1, p2⟩ := setI2 (.int .i64 0) (.int .i64 0) Q1.out
  generalize ((wa.setCell ⟨g1, 0, none⟩ (.int .i64 0)).setCell ⟨g1, 1, none⟩ (.int .i64 0)) = wz at *
  have P9 := And.intro (p1 g0 _ n10 Q0.out) p0
  have R_g5 := Lib.hid (p1 g5 _ n1g5 Q_g5.out)
  have R_s9 := Lib.hid (p1 s9 _ n1s9 Q_s9.out)
  have C9 : Chg [g0, g1] wc wz := (CA.out.mono (fun i hi => .inl (by simp at hi; simp [hi]))).trans (p2.mono (fun i hi => .inl (by simp at hi; simp [hi])))
  clear p0 p1 p2
  refine hK.out _ _ ⟨cell_of R_g5.out 0, cell_of R_g5.out 1, cell_of R_g5.out 2, cell_of R_g5.out 3, cell_of R_g5.out 4, cell_of R_g5.out 5, cell_of R_s9.out 0, cell_of R_s9.out 1⟩ (fun hHeld => ?_)
  clear hK K
  try simp only [Act.put, sA, s0, s1]
  refine wpAnyH_done (by kernel_rfl) ?_ _
  clear hHeld
  go_wp2
  have P0 := Lib.hid P9.1
  have P1 := Lib.hid P9.2
  have t0 := cell_of P0.out 0
  have t1 := cell_of P0.out 1
  have t2 := cell_of P0.out 2
  have t3 := cell_of P0.out 3
  have t4 := cell_of P0.out 4
  have t5 := cell_of P0.out 5
  simp only [List.getElem?_toArray, List.getElem?_cons_succ, List.getElem?_cons_zero] at t0 t1 t2 t3 t4 t5
  have u0 := cell_of P1.out 0
  have u1 := cell_of P1.out 1
  simp only [List.getElem?_toArray, List.getElem?_cons_succ, List.getElem?_cons_zero] at u0 u1
  refine bodyPost_ret (v := .tuple #[.agg #[.string (strOf (jT xs).1), .int .i64 RE.1.1, .int .i64 RE.1.2.1, .slice A10 RE.1.2.2.length c10, .slice A13 QE.1.length c13, .int .i64 (jN xs).1], .agg #[.int .i64 0, .int .i64 0]]) (by simp [results, Tryz.results11, go_sem, t0, t1, t2, t3, t4, t5, u0, u1]) rfl ?_
  refine ⟨⟨strOf (jT xs).1, RE.1.1, RE.1.2.1, A10, RE.1.2.2.length, c10, A13, QE.1.length, c13, (jN xs).1⟩, rfl, ER.out.chgS C9 (fun a ha => by have := N10.out a ha; simp; omega) (fun a ha => by have := N13.out a ha; simp; omega), ?_, (fun a ha => by have := N13.out a ha; have := Z.out; omega), C.out.trans' C9 (fun i hi => .inr (by have := Z.out; simp at hi; omega))⟩
  rw [EO.out]
  exact P13.out.chg C9 (fun a ha => by have := N13.out a ha; simp; omega)
end
section
open Go.RowKit Go.Lib
set_option linter.unusedSimpArgs false
set_option linter.unusedVariables false


set_option maxRecDepth 100000 in
set_option maxHeartbeats 8000000 in
theorem inbytes_any (w : World) (x : InT) (e : InP) (h : InR w x e) (hs : InSm e) :
    Calls Tryz.prog 8 #[.agg #[.string x.p, .int .i64 x.k, .int .i64 x.m, .slice x.A x.l x.c, .slice x.B x.bl x.bc, .int .i64 x.t]] w fun r w' => ∃ A' c', r = .returned (.tuple #[.slice A' (bytesI e).1.length c', .int .i64 (bytesI e).2]) ∧ Fresh w w' A' c' (bytesI e).1 := by
  obtain ⟨w1, hw, hc, b0⟩ := news1 w (.cells #[.string x.p, .int .i64 x.k, .int .i64 x.m, .slice x.A x.l x.c, .slice x.B x.bl x.bc, .int .i64 x.t] 27)
  have W1 := Lib.hid hw
  have HX := Lib.hid (h.chg hc)
  have C := Lib.hid hc
  have B0 := Lib.hid b0
  have HS := Lib.hid hs
  generalize hv : bytesI e = v
  have HV := Lib.hid hv
  clear hw hc b0 h hs hv
  go_enter Tryz.func8, Tryz.ntmps8
  go_upto_region 1 with fail
  rw [← W1.out]
  generalize w.heap.size = g0 at *
  clear W1
  have z0 := cell_of B0.out 0
  have z1 := cell_of B0.out 1
  have z2 := cell_of B0.out 2
  have z3 := cell_of B0.out 3
  have z4 := cell_of B0.out 4
  have z5 := cell_of B0.out 5
  simp only [List.getElem?_toArray, List.getElem?_cons_succ, List.getElem?_cons_zero] at z0 z1 z2 z3 z4 z5
  go_wp2_with fail
  clear z0 z1 z2 z3 z4 z5
  refine (incheck_any w1 x e HX.out HS.out).mono ?_
  rintro r w2 ⟨rfl, hc⟩
  replace C := Lib.hid (C.out.trans hc)
  replace HX := Lib.hid (HX.out.chg hc)
  replace B0 := Lib.hid (hc.at_ B0.out (by simp))
  clear hc
  rcases chkI_two e with hk | hk
  rotate_left
  · skip
    obtain rfl : v = ([], 2) := by rw [← HV.out]; unfold bytesI; rw [if_neg (by rw [hk]; decide)]
    rw [hk]
    clear hk
    go_wp2
    go_ret2
    exact ⟨none, 0, rfl, OwnB.none_ _, by simp, C.out⟩
  obtain rfl : v = (outs (iW3 e).1 (iW3 e).2, (iW3 e).2) := by rw [← HV.out]; unfold bytesI; rw [if_pos hk]
  have NB := Lib.hid (chkI_ok hk)
  rw [hk]
  clear hk HV
  have EL := Lib.hid (iW_len e)
  have z0 := cell_of B0.out 0
  have z1 := cell_of B0.out 1
  have z2 := cell_of B0.out 2
  have z3 := cell_of B0.out 3
  have z4 := cell_of B0.out 4
  have z5 := cell_of B0.out 5
  simp only [List.getElem?_toArray, List.getElem?_cons_succ, List.getElem?_cons_zero] at z0 z1 z2 z3 z4 z5
  go_wp2_with fail
  clear z0 z1 z2 z3 z4 z5
  refine (ebytes_any w2 x.k x.m x.A x.l x.c e.b HX.out.A (by rw [HX.out.l]; exact HS.out.2.1)).mono ?_
  rintro r w3 ⟨A3, c3, rfl, h3⟩
  have XK := Lib.hid (And.intro HX.out.k HX.out.m)
  rw [XK.out.1, XK.out.2] at h3
  rw [XK.out.1, XK.out.2]
  have O3 := Lib.hid h3.1
  have hc := h3.2.2
  clear h3
  replace C := Lib.hid (C.out.trans hc)
  replace HX := Lib.hid (HX.out.chg hc)
  replace B0 := Lib.hid (hc.at_ B0.out (by simp))
  clear hc
  have z0 := cell_of B0.out 0
  have z1 := cell_of B0.out 1
  have z2 := cell_of B0.out 2
  have z3 := cell_of B0.out 3
  have z4 := cell_of B0.out 4
  have z5 := cell_of B0.out 5
  simp only [List.getElem?_toArray, List.getElem?_cons_succ, List.getElem?_cons_zero] at z0 z1 z2 z3 z4 z5
  go_wp2_with fail
  clear z0 z1 z2 z3 z4 z5
  refine (pabytes_any w3 x.B x.bl x.bc e.q HX.out.B (by rw [HX.out.bl]; exact HS.out.2.2)).mono ?_
  rintro r w4 ⟨A4, c4, rfl, h4⟩
  have O4 := Lib.hid h4.1
  have hc := h4.2.2
  replace O3 := Lib.hid (O3.out.chg hc (by simp))
  clear h4
  replace C := Lib.hid (C.out.trans hc)
  replace HX := Lib.hid (HX.out.chg hc)
  replace B0 := Lib.hid (hc.at_ B0.out (by simp))
  clear hc
  go_wp2_with fail
  refine (ws_new w4 w4 (Chg.refl [] w4)).mono ?_
  rintro r w5 ⟨b, rfl, h5⟩
  have K := Lib.hid h5
  clear h5
  have BX : Hid (∀ w', Chg [] w4 w' → w'.heap[g0]? = some (.cells #[.string x.p, .int .i64 x.k, .int .i64 x.m, .slice x.A x.l x.c, .slice x.B x.bl x.bc, .int .i64 x.t] 27 (0, 0))) := Lib.hid (fun w' hc => hc.at_ B0.out (by simp))
  have XP := Lib.hid HX.out.p
  have XT := Lib.hid HX.out.t
  have BK := Lib.hid (BX.out _ K.out.chg)
  have z0 := cell_of BK.out 0
  have z1 := cell_of BK.out 1
  have z2 := cell_of BK.out 2
  have z3 := cell_of BK.out 3
  have z4 := cell_of BK.out 4
  have z5 := cell_of BK.out 5
  simp only [List.getElem?_toArray, List.getElem?_cons_succ, List.getElem?_cons_zero] at z0 z1 z2 z3 z4 z5
  go_wp2_with fail
  clear z0 z1 z2 z3 z4 z5
  refine (ws_text w4 w5 b [] 0 x.p K.out (by simp) (by rw [XP.out, strOf_size]; have := HS.out.1; omega)).mono ?_
  rintro r w6 ⟨rfl, h6⟩
  rw [XP.out, strOf_data] at h6
  replace K : Hid (Ws w4 w6 b (iW0 e).1 (iW0 e).2) := Lib.hid h6
  clear h6 BK
  go_wp2_with fail
  refine (ws_raw w4 w6 b _ _ A3 _ c3 (effO e.k e.m e.b) K.out EL.out.1 (by have := effO_lenI e.k e.m e.b; omega) O3.out.reads).mono ?_
  rintro r w7 ⟨rfl, h7⟩
  replace K : Hid (Ws w4 w7 b (iW1 e).1 (iW1 e).2) := Lib.hid h7
  clear h7
  go_wp2_with fail
  refine (ws_raw w4 w7 b _ _ A4 _ c4 (bytesO e.q) K.out EL.out.2.1 (by have := bytesO_lenI e.q; omega) O4.out.reads).mono ?_
  rintro r w8 ⟨rfl, h8⟩
  replace K : Hid (Ws w4 w8 b (iW2 e).1 (iW2 e).2) := Lib.hid h8
  clear h8
  have BK := Lib.hid (BX.out _ K.out.chg)
  have z0 := cell_of BK.out 0
  have z1 := cell_of BK.out 1
  have z2 := cell_of BK.out 2
  have z3 := cell_of BK.out 3
  have z4 := cell_of BK.out 4
  have z5 := cell_of BK.out 5
  simp only [List.getElem?_toArray, List.getElem?_cons_succ, List.getElem?_cons_zero] at z0 z1 z2 z3 z4 z5
  go_wp2_with fail
  clear z0 z1 z2 z3 z4 z5
  refine (ws_num w4 w8 b _ _ x.t K.out EL.out.2.2.1).mono ?_
  rintro r w9 ⟨rfl, h9⟩
  rw [XT.out] at h9
  replace K : Hid (Ws w4 w9 b (iW3 e).1 (iW3 e).2) := Lib.hid h9
  clear h9 BK
  go_wp2_with fail
  refine (ws_out w4 w9 b _ _ K.out EL.out.2.2.2).mono ?_
  rintro r wa ⟨A9, c9, rfl, h9⟩
  have F := Lib.hid (h9.since C.out)
  clear h9
  go_wp2
  go_ret2
  exact ⟨A9, c9, rfl, F.out⟩

set_option maxRecDepth 100000 in
set_option maxHeartbeats 8000000 in
theorem jnbytes_any (w : World) (x : InT) (e : InP) (h : InR w x e) (hs : InSm e) :
    Calls Tryz.prog 9 #[.agg #[.string x.p, .int .i64 x.k, .int .i64 x.m, .slice x.A x.l x.c, .slice x.B x.bl x.bc, .int .i64 x.t]] w fun r w' => ∃ A' c', r = .returned (.tuple #[.slice A' (bytesI e).1.length c', .int .i64 (bytesI e).2]) ∧ Fresh w w' A' c' (bytesI e).1 := by
  obtain ⟨w1, hw, hc, b0⟩ := news1 w (.cells #[.string x.p, .int .i64 x.k, .int .i64 x.m, .slice x.A x.l x.c, .slice x.B x.bl x.bc, .int .i64 x.t] 27)
  have W1 := Lib.hid hw
  have HX := Lib.hid (h.chg hc)
  have C := Lib.hid hc
  have B0 := Lib.hid b0
  have HS := Lib.hid hs
  generalize hv : bytesI e = v
  have HV := Lib.hid hv
  clear hw hc b0 h hs hv
  go_enter Tryz.func9, Tryz.ntmps9
  go_upto_region 1 with fail
  rw [← W1.out]
  generalize w.heap.size = g0 at *
  clear W1
  have z0 := cell_of B0.out 0
  have z1 := cell_of B0.out 1
  have z2 := cell_of B0.out 2
  have z3 := cell_of B0.out 3
  have z4 := cell_of B0.out 4
  have z5 := cell_of B0.out 5
  simp only [List.getElem?_toArray, List.getElem?_cons_succ, List.getElem?_cons_zero] at z0 z1 z2 z3 z4 z5
  go_wp2_with fail
  clear z0 z1 z2 z3 z4 z5
  refine (jncheck_any w1 x e HX.out HS.out).mono ?_
  rintro r w2 ⟨rfl, hc⟩
  replace C := Lib.hid (C.out.trans hc)
  replace HX := Lib.hid (HX.out.chg hc)
  replace B0 := Lib.hid (hc.at_ B0.out (by simp))
  clear hc
  rcases chkI_two e with hk | hk
  rotate_left
  · skip
    obtain rfl : v = ([], 2) := by rw [← HV.out]; unfold bytesI; rw [if_neg (by rw [hk]; decide)]
    rw [hk]
    clear hk
    go_wp2
    go_ret2
    exact ⟨none, 0, rfl, OwnB.none_ _, by simp, C.out⟩
  obtain rfl : v = (outs (iW3 e).1 (iW3 e).2, (iW3 e).2) := by rw [← HV.out]; unfold bytesI; rw [if_pos hk]
  have NB := Lib.hid (chkI_ok hk)
  rw [hk]
  clear hk HV
  have EL := Lib.hid (iW_len e)
  have z0 := cell_of B0.out 0
  have z1 := cell_of B0.out 1
  have z2 := cell_of B0.out 2
  have z3 := cell_of B0.out 3
  have z4 := cell_of B0.out 4
  have z5 := cell_of B0.out 5
  simp only [List.getElem?_toArray, List.getElem?_cons_succ, List.getElem?_cons_zero] at z0 z1 z2 z3 z4 z5
  go_wp2_with fail
  clear z0 z1 z2 z3 z4 z5
  refine (fbytes_any w2 x.k x.m x.A x.l x.c e.b HX.out.A (by rw [HX.out.l]; exact HS.out.2.1)).mono ?_
  rintro r w3 ⟨A3, c3, rfl, h3⟩
  have XK := Lib.hid (And.intro HX.out.k HX.out.m)
  rw [XK.out.1, XK.out.2] at h3
  rw [XK.out.1, XK.out.2]
  have O3 := Lib.hid h3.1
  have hc := h3.2.2
  clear h3
  replace C := Lib.hid (C.out.trans hc)
  replace HX := Lib.hid (HX.out.chg hc)
  replace B0 := Lib.hid (hc.at_ B0.out (by simp))
  clear hc
  have z0 := cell_of B0.out 0
  have z1 := cell_of B0.out 1
  have z2 := cell_of B0.out 2
  have z3 := cell_of B0.out 3
  have z4 := cell_of B0.out 4
  have z5 := cell_of B0.out 5
  simp only [List.getElem?_toArray, List.getElem?_cons_succ, List.getElem?_cons_zero] at z0 z1 z2 z3 z4 z5
  go_wp2_with fail
  clear z0 z1 z2 z3 z4 z5
  refine (qbytes_any w3 x.B x.bl x.bc e.q HX.out.B (by rw [HX.out.bl]; exact HS.out.2.2)).mono ?_
  rintro r w4 ⟨A4, c4, rfl, h4⟩
  have O4 := Lib.hid h4.1
  have hc := h4.2.2
  replace O3 := Lib.hid (O3.out.chg hc (by simp))
  clear h4
  replace C := Lib.hid (C.out.trans hc)
  replace HX := Lib.hid (HX.out.chg hc)
  replace B0 := Lib.hid (hc.at_ B0.out (by simp))
  clear hc
  have K := Lib.hid (vs_new w4 w4 (Chg.refl [] w4))
  obtain ⟨w5, hw5⟩ : ∃ w5, w5 = w4.alloc (.cells #[.slice none 0 0, .int .i64 0] 69) := ⟨_, rfl⟩
  rw [← hw5] at K
  have W5 := Lib.hid hw5.symm
  clear hw5
  obtain ⟨b, hb⟩ : ∃ b, w4.heap.size = b := ⟨_, rfl⟩
  rw [hb] at K
  have HB := Lib.hid hb
  clear hb
  go_upto_region 6 with fail
  rw [W5.out, HB.out]
  clear W5
  have BX : Hid (∀ w', Chg [] w4 w' → w'.heap[g0]? = some (.cells #[.string x.p, .int .i64 x.k, .int .i64 x.m, .slice x.A x.l x.c, .slice x.B x.bl x.bc, .int .i64 x.t] 27 (0, 0))) := Lib.hid (fun w' hc => hc.at_ B0.out (by simp))
  have XP := Lib.hid HX.out.p
  have XT := Lib.hid HX.out.t
  have BK := Lib.hid (BX.out _ K.out.chg)
  have z0 := cell_of BK.out 0
  have z1 := cell_of BK.out 1
  have z2 := cell_of BK.out 2
  have z3 := cell_of BK.out 3
  have z4 := cell_of BK.out 4
  have z5 := cell_of BK.out 5
  simp only [List.getElem?_toArray, List.getElem?_cons_succ, List.getElem?_cons_zero] at z0 z1 z2 z3 z4 z5
  go_wp2_with fail
  clear z0 z1 z2 z3 z4 z5
  refine (vs_text w4 w5 b [] 0 x.p K.out (by simp) (by rw [XP.out, strOf_size]; have := HS.out.1; omega)).mono ?_
  rintro r w6 ⟨rfl, h6⟩
  rw [XP.out, strOf_data] at h6
  replace K : Hid (Vs w4 w6 b (iW0 e).1 (iW0 e).2) := Lib.hid h6
  clear h6 BK
  go_wp2_with fail
  refine (vs_raw w4 w6 b _ _ A3 _ c3 (effO e.k e.m e.b) K.out EL.out.1 (by have := effO_lenI e.k e.m e.b; omega) O3.out.reads).mono ?_
  rintro r w7 ⟨rfl, h7⟩
  replace K : Hid (Vs w4 w7 b (iW1 e).1 (iW1 e).2) := Lib.hid h7
  clear h7
  go_wp2_with fail
  refine (vs_raw w4 w7 b _ _ A4 _ c4 (bytesO e.q) K.out EL.out.2.1 (by have := bytesO_lenI e.q; omega) O4.out.reads).mono ?_
  rintro r w8 ⟨rfl, h8⟩
  replace K : Hid (Vs w4 w8 b (iW2 e).1 (iW2 e).2) := Lib.hid h8
  clear h8
  have BK := Lib.hid (BX.out _ K.out.chg)
  have z0 := cell_of BK.out 0
  have z1 := cell_of BK.out 1
  have z2 := cell_of BK.out 2
  have z3 := cell_of BK.out 3
  have z4 := cell_of BK.out 4
  have z5 := cell_of BK.out 5
  simp only [List.getElem?_toArray, List.getElem?_cons_succ, List.getElem?_cons_zero] at z0 z1 z2 z3 z4 z5
  go_wp2_with fail
  clear z0 z1 z2 z3 z4 z5
  refine (vs_num w4 w8 b _ _ x.t K.out EL.out.2.2.1 (by rw [XT.out]; have := NB.out.2.2.2.1; omega) (by rw [XT.out]; have := NB.out.2.2.2.2; omega)).mono ?_
  rintro r w9 ⟨rfl, h9⟩
  rw [XT.out] at h9
  replace K : Hid (Vs w4 w9 b (iW3 e).1 (iW3 e).2) := Lib.hid h9
  clear h9 BK
  go_wp2_with fail
  refine (vs_out w4 w9 b _ _ K.out EL.out.2.2.2).mono ?_
  rintro r wa ⟨A9, c9, rfl, h9⟩
  have F := Lib.hid (h9.since C.out)
  clear h9
  go_wp2
  go_ret2
  exact ⟨A9, c9, rfl, F.out⟩
end
end Go.Proofs.YtcnbgdplkobenaaGreatDoor
