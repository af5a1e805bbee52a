/- edge.Check and the document's; New. edge.Bytes; the document's. Slices of spans as arguments. An archive as an argument. -/
import Derived.Test.YtgafkaigkaghcaaGreatDoorZead
import Derived.Test.YtgafkaigkaghcaaGreatDoorZeab
import Derived.Test.YtgafkaigkaghcaaGreatDoorZeac
import Derived.Deep.Cut
import Derived.Test.YtgafkaigkaghcaaGreatDoorZeah
import Derived.Test.YtgafkaigkaghcaaGreatDoorZean
namespace Go.Proofs.YtgafkaigkaghcaaGreatDoor
section
open Go.RowKit Go.Lib
set_option linter.unusedSimpArgs false
set_option linter.unusedVariables false


set_option maxRecDepth 100000 in
set_option maxHeartbeats 8000000 in
theorem edcheck_any (w : World) (n : Int) (B : Option Addr) (bl bc : Nat) (q : List Sp) (h : RdK spanTy w B bl q) (hn : bl ≤ 140737488351232) :
    Calls Tryz.prog 16 #[.agg #[.int .i64 n, .slice B bl bc]] w fun r w' => r = .returned (.int .i64 (chkA n q)) ∧ Chg [] w w' := by
  obtain ⟨w1, hw, hc, b0⟩ := news1 w (.cells #[.int .i64 n, .slice B bl bc] 24)
  have W1 := Lib.hid hw
  have H := Lib.hid (h.chg hc (by simp))
  have C := Lib.hid hc
  have B0 := Lib.hid b0
  have HN := Lib.hid hn
  generalize hv : chkA n q = v
  have HV := Lib.hid hv
  clear hw hc b0 h hn hv
  go_enter Tryz.func16, Tryz.ntmps16
  go_upto_region 1 with fail
  rw [← W1.out]
  generalize w.heap.size = g0 at *
  clear W1
  have z0 := cell_of B0.out 0
  have z1 := cell_of B0.out 1
  simp only [List.getElem?_toArray, List.getElem?_cons_succ, List.getElem?_cons_zero] at z0 z1
  by_cases h1 : n < 1
  · skip
    obtain rfl : v = 2 := by rw [← HV.out]; exact chkA_lo h1
    go_wp2
    go_ret
    exact ⟨rfl, C.out⟩
  by_cases h2 : 200 < n
  · skip
    obtain rfl : v = 2 := by rw [← HV.out]; exact chkA_hi h2
    go_wp2
    go_ret
    exact ⟨rfl, C.out⟩
  have HW : Hid (chkS q = v) := Lib.hid (by rw [← HV.out]; exact (chkA_in (by omega) (by omega)).symm)
  go_wp2_with fail
  clear h1 h2
  clear z0 z1
  refine (pacheck_any w1 B bl bc q H.out HN.out).mono ?_
  rintro r w2 ⟨rfl, hc⟩
  replace C := Lib.hid (C.out.trans hc)
  clear hc
  rw [HW.out]
  have TW : Hid (v = 0 ∨ v = 2) := Lib.hid (by rw [← HW.out]; exact chk_two q)
  rcases TW.out with rfl | rfl
  · skip
    go_wp2
    go_ret
    exact ⟨rfl, C.out⟩
  · skip
    go_wp2
    go_ret
    exact ⟨rfl, C.out⟩

set_option maxRecDepth 100000 in
set_option maxHeartbeats 8000000 in
theorem fdcheck_any (w : World) (n : Int) (B : Option Addr) (bl bc : Nat) (q : List Sp) (h : RdK spanTy w B bl q) (hn : bl ≤ 140737488351232) :
    Calls Tryz.prog 17 #[.agg #[.int .i64 n, .slice B bl bc]] w fun r w' => r = .returned (.int .i64 (chkA n q)) ∧ Chg [] w w' := by
  obtain ⟨w1, hw, hc, b0⟩ := news1 w (.cells #[.int .i64 n, .slice B bl bc] 24)
  have W1 := Lib.hid hw
  have H := Lib.hid (h.chg hc (by simp))
  have C := Lib.hid hc
  have B0 := Lib.hid b0
  have HN := Lib.hid hn
  generalize hv : chkA n q = v
  have HV := Lib.hid hv
  clear hw hc b0 h hn hv
  go_enter Tryz.func17, Tryz.ntmps17
  go_upto_region 1 with fail
  rw [← W1.out]
  generalize w.heap.size = g0 at *
  clear W1
  have z0 := cell_of B0.out 0
  have z1 := cell_of B0.out 1
  simp only [List.getElem?_toArray, List.getElem?_cons_succ, List.getElem?_cons_zero] at z0 z1
  by_cases h1 : n < 1
  · skip
    obtain rfl : v = 2 := by rw [← HV.out]; exact chkA_lo h1
    go_wp2
    go_ret
    exact ⟨rfl, C.out⟩
  by_cases h2 : 200 < n
  · skip
    obtain rfl : v = 2 := by rw [← HV.out]; exact chkA_hi h2
    go_wp2
    go_ret
    exact ⟨rfl, C.out⟩
  have HW : Hid (chkS q = v) := Lib.hid (by rw [← HV.out]; exact (chkA_in (by omega) (by omega)).symm)
  go_wp2_with fail
  clear h1 h2
  clear z0 z1
  refine (qacheck_any w1 B bl bc q H.out HN.out).mono ?_
  rintro r w2 ⟨rfl, hc⟩
  replace C := Lib.hid (C.out.trans hc)
  clear hc
  rw [HW.out]
  have TW : Hid (v = 0 ∨ v = 2) := Lib.hid (by rw [← HW.out]; exact chk_two q)
  rcases TW.out with rfl | rfl
  · skip
    go_wp2
    go_ret
    exact ⟨rfl, C.out⟩
  · skip
    go_wp2
    go_ret
    exact ⟨rfl, C.out⟩

set_option maxRecDepth 100000 in
set_option maxHeartbeats 8000000 in
theorem ednew_any (w : World) (n : Int)  :
    Calls Tryz.prog 12 #[.int .i64 n] w fun r w' => ∃ A' c', r = .returned (.tuple #[.agg #[.int .i64 (newA n).2.1, .slice A' (newA n).2.2.length c'], .int .i64 (newA n).1]) ∧ OwnK spanTy w' A' c' (newA n).2.2 ∧ (∀ a, A' = some a → w.heap.size ≤ a.block) ∧ Chg [] w w' := by
  obtain ⟨w1, hw, hc, b0, b1⟩ := news2 w (.cells #[.int .i64 0, .slice none 0 0] 24) (.cells #[.int .i64 n, .slice none 0 0] 24)
  have W1 := Lib.hid hw
  have C := Lib.hid hc
  have B0 := Lib.hid b0
  have B1 := Lib.hid b1
  generalize hv : newA n = v
  have HV := Lib.hid hv
  clear hw hc b0 b1 hv
  go_enter Tryz.func12, Tryz.ntmps12
  go_upto_region 2 with fail
  rw [← W1.out]
  generalize hz1 : w.heap.size + 1 = g1 at *
  generalize hz0 : w.heap.size = g0 at *
  have Z := Lib.hid (And.intro hz0 hz1)
  have n01 : ¬ g0 = g1 := by omega
  have n10 : ¬ g1 = g0 := by omega
  clear W1 hz0 hz1
  have z0 := cell_of B1.out 0
  have z1 := cell_of B1.out 1
  simp only [List.getElem?_toArray, List.getElem?_cons_succ, List.getElem?_cons_zero] at z0 z1
  go_wp2_with fail
  clear z0 z1
  refine (edcheck_any w1 n none 0 0 [] (RdK.nil _ _) (by omega)).mono ?_
  rintro r w2 ⟨rfl, hc⟩
  replace C := Lib.hid (C.out.trans hc)
  replace B0 := Lib.hid (hc.at_ B0.out (by simp))
  replace B1 := Lib.hid (hc.at_ B1.out (by simp))
  clear hc
  rcases chkA_two n [] with hk | hk
  · skip
    obtain rfl : v = (0, n, []) := by rw [← HV.out]; unfold newA; rw [if_pos hk]
    rw [hk]
    clear hk
    have t0 := cell_of B0.out 0
    have t1 := cell_of B0.out 1
    have ft0 := free_of B0.out 0
    have ft1 := free_of B0.out 1
    simp only [List.getElem?_toArray, List.getElem?_cons_succ, List.getElem?_cons_zero] at t0 t1
    have z0 := cell_of B1.out 0
    have z1 := cell_of B1.out 1
    simp only [List.getElem?_toArray, List.getElem?_cons_succ, List.getElem?_cons_zero] at z0 z1
    go_wp2
    refine bodyPost_ret (v := .tuple #[.agg #[.int .i64 n, .slice none 0 0], .int .i64 0]) (by simp [results, Tryz.results12, go_sem, t0, t1]) rfl ?_
    exact ⟨none, 0, rfl, OwnK.none_ _, by simp, C.out.trans' (((Chg.refl [g0] w2).put' 0 _).put' 1 _) (fun i hi => .inr (by have := Z.out; simp at hi; omega))⟩
  · skip
    obtain rfl : v = (2, 0, []) := by rw [← HV.out]; unfold newA; rw [if_neg (by rw [hk]; decide)]
    rw [hk]
    clear hk
    have t0 := cell_of B0.out 0
    have t1 := cell_of B0.out 1
    have ft0 := free_of B0.out 0
    have ft1 := free_of B0.out 1
    simp only [List.getElem?_toArray, List.getElem?_cons_succ, List.getElem?_cons_zero] at t0 t1
    have z0 := cell_of B1.out 0
    have z1 := cell_of B1.out 1
    simp only [List.getElem?_toArray, List.getElem?_cons_succ, List.getElem?_cons_zero] at z0 z1
    go_wp2
    refine bodyPost_ret (v := .tuple #[.agg #[.int .i64 0, .slice none 0 0], .int .i64 2]) (by simp [results, Tryz.results12, go_sem, t0, t1]) rfl ?_
    exact ⟨none, 0, rfl, OwnK.none_ _, by simp, C.out.trans' (((Chg.refl [g0] w2).put' 0 _).put' 1 _) (fun i hi => .inr (by have := Z.out; simp at hi; omega))⟩

set_option maxRecDepth 100000 in
set_option maxHeartbeats 8000000 in
theorem fdnew_any (w : World) (n : Int)  :
    Calls Tryz.prog 13 #[.int .i64 n] w fun r w' => ∃ A' c', r = .returned (.tuple #[.agg #[.int .i64 (newA n).2.1, .slice A' (newA n).2.2.length c'], .int .i64 (newA n).1]) ∧ OwnK spanTy w' A' c' (newA n).2.2 ∧ (∀ a, A' = some a → w.heap.size ≤ a.block) ∧ Chg [] w w' := by
  obtain ⟨w1, hw, hc, b0, b1⟩ := news2 w (.cells #[.int .i64 0, .slice none 0 0] 24) (.cells #[.int .i64 n, .slice none 0 0] 24)
  have W1 := Lib.hid hw
  have C := Lib.hid hc
  have B0 := Lib.hid b0
  have B1 := Lib.hid b1
  generalize hv : newA n = v
  have HV := Lib.hid hv
  clear hw hc b0 b1 hv
  go_enter Tryz.func13, Tryz.ntmps13
  go_upto_region 2 with fail
  rw [← W1.out]
  generalize hz1 : w.heap.size + 1 = g1 at *
  generalize hz0 : w.heap.size = g0 at *
  have Z := Lib.hid (And.intro hz0 hz1)
  have n01 : ¬ g0 = g1 := by omega
  have n10 : ¬ g1 = g0 := by omega
  clear W1 hz0 hz1
  have z0 := cell_of B1.out 0
  have z1 := cell_of B1.out 1
  simp only [List.getElem?_toArray, List.getElem?_cons_succ, List.getElem?_cons_zero] at z0 z1
  go_wp2_with fail
  clear z0 z1
  refine (fdcheck_any w1 n none 0 0 [] (RdK.nil _ _) (by omega)).mono ?_
  rintro r w2 ⟨rfl, hc⟩
  replace C := Lib.hid (C.out.trans hc)
  replace B0 := Lib.hid (hc.at_ B0.out (by simp))
  replace B1 := Lib.hid (hc.at_ B1.out (by simp))
  clear hc
  rcases chkA_two n [] with hk | hk
  · skip
    obtain rfl : v = (0, n, []) := by rw [← HV.out]; unfold newA; rw [if_pos hk]
    rw [hk]
    clear hk
    have t0 := cell_of B0.out 0
    have t1 := cell_of B0.out 1
    have ft0 := free_of B0.out 0
    have ft1 := free_of B0.out 1
    simp only [List.getElem?_toArray, List.getElem?_cons_succ, List.getElem?_cons_zero] at t0 t1
    have z0 := cell_of B1.out 0
    have z1 := cell_of B1.out 1
    simp only [List.getElem?_toArray, List.getElem?_cons_succ, List.getElem?_cons_zero] at z0 z1
    go_wp2
    refine bodyPost_ret (v := .tuple #[.agg #[.int .i64 n, .slice none 0 0], .int .i64 0]) (by simp [results, Tryz.results13, go_sem, t0, t1]) rfl ?_
    exact ⟨none, 0, rfl, OwnK.none_ _, by simp, C.out.trans' (((Chg.refl [g0] w2).put' 0 _).put' 1 _) (fun i hi => .inr (by have := Z.out; simp at hi; omega))⟩
  · skip
    obtain rfl : v = (2, 0, []) := by rw [← HV.out]; unfold newA; rw [if_neg (by rw [hk]; decide)]
    rw [hk]
    clear hk
    have t0 := cell_of B0.out 0
    have t1 := cell_of B0.out 1
    have ft0 := free_of B0.out 0
    have ft1 := free_of B0.out 1
    simp only [List.getElem?_toArray, List.getElem?_cons_succ, List.getElem?_cons_zero] at t0 t1
    have z0 := cell_of B1.out 0
    have z1 := cell_of B1.out 1
    simp only [List.getElem?_toArray, List.getElem?_cons_succ, List.getElem?_cons_zero] at z0 z1
    go_wp2
    refine bodyPost_ret (v := .tuple #[.agg #[.int .i64 0, .slice none 0 0], .int .i64 2]) (by simp [results, Tryz.results13, go_sem, t0, t1]) rfl ?_
    exact ⟨none, 0, rfl, OwnK.none_ _, by simp, C.out.trans' (((Chg.refl [g0] w2).put' 0 _).put' 1 _) (fun i hi => .inr (by have := Z.out; simp at hi; omega))⟩
end
section
open Go.RowKit Go.Lib
set_option linter.unusedSimpArgs false
set_option linter.unusedVariables false


theorem bytesO_len_ (xs : List (Int × Int × Int)) : (bytesO xs).length ≤ 40000 := by
  unfold bytesO
  split
  · rename_i h
    have := (chkS_zero h).1
    show (UInt8.ofNat (xs.length / 256) :: UInt8.ofNat xs.length :: xs.flatMap spanB).length ≤ 40000
    rw [List.length_cons, List.length_cons, flat_len]
    omega
  · simp

set_option maxRecDepth 100000 in
set_option maxHeartbeats 8000000 in
theorem edbytes_any (w : World) (n : Int) (B : Option Addr) (bc : Nat) (q : List Sp) (h : RdK spanTy w B q.length q) (hn : q.length ≤ 140737488351232) :
    Calls Tryz.prog 14 #[.agg #[.int .i64 n, .slice B q.length bc]] w fun r w' => ∃ A' c', r = .returned (.tuple #[.slice A' (bytesA n q).1.length c', .int .i64 (bytesA n q).2]) ∧ Fresh w w' A' c' (bytesA n q).1 := by
  obtain ⟨w1, hw, hc, b0⟩ := news1 w (.cells #[.int .i64 n, .slice B q.length bc] 24)
  have W1 := Lib.hid hw
  have H := Lib.hid (h.chg hc (by simp))
  have C := Lib.hid (hc)
  have B0 := Lib.hid (b0)
  have HN := Lib.hid (hn)
  have C0 := Lib.hid (hc)
  generalize hv : bytesA n q = v
  have HV := Lib.hid hv
  clear hw hc b0 h hn hv
  go_enter Tryz.func14, Tryz.ntmps14
  go_upto_region 1 with fail
  rw [← W1.out]
  generalize w.heap.size = g0 at *
  clear W1
  have z0 := cell_of B0.out 0
  have z1 := cell_of B0.out 1
  simp only [List.getElem?_toArray, List.getElem?_cons_succ, List.getElem?_cons_zero] at z0 z1
  go_wp2_with fail
  clear z0 z1
  refine (edcheck_any w1 n B q.length bc q H.out HN.out).mono ?_
  rintro r w2 ⟨rfl, hc⟩
  replace C := Lib.hid (C.out.trans hc)
  replace B0 := Lib.hid (hc.at_ B0.out (by simp))
  replace H := Lib.hid (H.out.chg hc (by simp))
  clear hc
  rcases chkA_two n q with hk | hk
  rotate_left
  · skip
    obtain rfl : v = ([], 2) := by rw [← HV.out]; unfold bytesA; rw [if_neg (by rw [hk]; decide)]
    rw [hk]
    clear hk
    go_wp2
    go_ret2
    exact ⟨none, 0, rfl, OwnB.none_ _, by simp, C.out⟩
  obtain rfl : v = (outs (aW1 n q).1 (aW1 n q).2, (aW1 n q).2) := by rw [← HV.out]; unfold bytesA; rw [if_pos hk]
  have NB := Lib.hid (chkA_ok hk)
  rw [hk]
  clear hk HV
  have EL := Lib.hid (aW_len n q)
  have z0 := cell_of B0.out 0
  have z1 := cell_of B0.out 1
  simp only [List.getElem?_toArray, List.getElem?_cons_succ, List.getElem?_cons_zero] at z0 z1
  go_wp2_with fail
  clear z0 z1
  refine (pabytes_any w2 B q.length bc q H.out HN.out).mono ?_
  rintro r w4 ⟨A4, c4, rfl, h4⟩
  have O4 := Lib.hid h4.1
  have hc := h4.2.2
  clear h4
  replace C := Lib.hid (C.out.trans hc)
  replace B0 := Lib.hid (hc.at_ B0.out (by simp))
  clear hc
  go_wp2_with fail
  refine (ws_new w4 w4 (Chg.refl [] w4)).mono ?_
  rintro r w5 ⟨b, rfl, h5⟩
  have K := Lib.hid h5
  clear h5
  have BX : Hid (∀ w', Chg [] w4 w' → w'.heap[g0]? = some (.cells #[.int .i64 n, .slice B q.length bc] 24 (0, 0))) := Lib.hid (fun w' hc => hc.at_ B0.out (by simp))
  have BK := Lib.hid (BX.out _ K.out.chg)
  have z0 := cell_of BK.out 0
  have z1 := cell_of BK.out 1
  simp only [List.getElem?_toArray, List.getElem?_cons_succ, List.getElem?_cons_zero] at z0 z1
  go_wp2_with fail
  clear z0 z1
  refine (ws_num w4 w5 b [] 0 n K.out (by simp)).mono ?_
  rintro r w6 ⟨rfl, h6⟩
  replace K : Hid (Ws w4 w6 b (aW0 n).1 (aW0 n).2) := Lib.hid h6
  clear h6 BK
  go_wp2_with fail
  refine (ws_raw w4 w6 b _ _ A4 _ c4 (bytesO q) K.out EL.out.1 (by have := bytesO_len_ q; omega) O4.out.reads).mono ?_
  rintro r w7 ⟨rfl, h7⟩
  replace K : Hid (Ws w4 w7 b (aW1 n q).1 (aW1 n q).2) := Lib.hid h7
  clear h7
  go_wp2_with fail
  refine (ws_out w4 w7 b _ _ K.out EL.out.2).mono ?_
  rintro r w8 ⟨A9, c9, rfl, h9⟩
  have F := Lib.hid (h9.since C.out)
  clear h9
  go_wp2
  go_ret2
  exact ⟨A9, c9, rfl, F.out⟩

set_option maxRecDepth 100000 in
set_option maxHeartbeats 8000000 in
theorem fdbytes_any (w : World) (n : Int) (B : Option Addr) (bc : Nat) (q : List Sp) (h : RdK spanTy w B q.length q) (hn : q.length ≤ 140737488351232) :
    Calls Tryz.prog 15 #[.agg #[.int .i64 n, .slice B q.length bc]] w fun r w' => ∃ A' c', r = .returned (.tuple #[.slice A' (bytesA n q).1.length c', .int .i64 (bytesA n q).2]) ∧ Fresh w w' A' c' (bytesA n q).1 := by
  obtain ⟨w1, hw, hc, b0⟩ := news1 w (.cells #[.int .i64 n, .slice B q.length bc] 24)
  have W1 := Lib.hid hw
  have H := Lib.hid (h.chg hc (by simp))
  have C := Lib.hid (hc)
  have B0 := Lib.hid (b0)
  have HN := Lib.hid (hn)
  have C0 := Lib.hid (hc)
  generalize hv : bytesA n q = v
  have HV := Lib.hid hv
  clear hw hc b0 h hn hv
  go_enter Tryz.func15, Tryz.ntmps15
  go_upto_region 1 with fail
  rw [← W1.out]
  generalize w.heap.size = g0 at *
  clear W1
  have z0 := cell_of B0.out 0
  have z1 := cell_of B0.out 1
  simp only [List.getElem?_toArray, List.getElem?_cons_succ, List.getElem?_cons_zero] at z0 z1
  go_wp2_with fail
  clear z0 z1
  refine (fdcheck_any w1 n B q.length bc q H.out HN.out).mono ?_
  rintro r w2 ⟨rfl, hc⟩
  replace C := Lib.hid (C.out.trans hc)
  replace B0 := Lib.hid (hc.at_ B0.out (by simp))
  replace H := Lib.hid (H.out.chg hc (by simp))
  clear hc
  rcases chkA_two n q with hk | hk
  rotate_left
  · skip
    obtain rfl : v = ([], 2) := by rw [← HV.out]; unfold bytesA; rw [if_neg (by rw [hk]; decide)]
    rw [hk]
    clear hk
    go_wp2
    go_ret2
    exact ⟨none, 0, rfl, OwnB.none_ _, by simp, C.out⟩
  obtain rfl : v = (outs (aW1 n q).1 (aW1 n q).2, (aW1 n q).2) := by rw [← HV.out]; unfold bytesA; rw [if_pos hk]
  have NB := Lib.hid (chkA_ok hk)
  rw [hk]
  clear hk HV
  have EL := Lib.hid (aW_len n q)
  have z0 := cell_of B0.out 0
  have z1 := cell_of B0.out 1
  simp only [List.getElem?_toArray, List.getElem?_cons_succ, List.getElem?_cons_zero] at z0 z1
  go_wp2_with fail
  clear z0 z1
  refine (qbytes_any w2 B q.length bc q H.out HN.out).mono ?_
  rintro r w4 ⟨A4, c4, rfl, h4⟩
  have O4 := Lib.hid h4.1
  have hc := h4.2.2
  clear h4
  replace C := Lib.hid (C.out.trans hc)
  replace B0 := Lib.hid (hc.at_ B0.out (by simp))
  clear hc
  have K := Lib.hid (vs_new w4 w4 (Chg.refl [] w4))
  obtain ⟨w5, hw5⟩ : ∃ w5, w5 = w4.alloc (.cells #[.slice none 0 0, .int .i64 0] 75) := ⟨_, rfl⟩
  rw [← hw5] at K
  have W5 := Lib.hid hw5.symm
  clear hw5
  obtain ⟨b, hb⟩ : ∃ b, w4.heap.size = b := ⟨_, rfl⟩
  rw [hb] at K
  have HB := Lib.hid hb
  clear hb
  go_upto_region 5 with fail
  rw [W5.out, HB.out]
  clear W5
  have BX : Hid (∀ w', Chg [] w4 w' → w'.heap[g0]? = some (.cells #[.int .i64 n, .slice B q.length bc] 24 (0, 0))) := Lib.hid (fun w' hc => hc.at_ B0.out (by simp))
  have BK := Lib.hid (BX.out _ K.out.chg)
  have z0 := cell_of BK.out 0
  have z1 := cell_of BK.out 1
  simp only [List.getElem?_toArray, List.getElem?_cons_succ, List.getElem?_cons_zero] at z0 z1
  go_wp2_with fail
  clear z0 z1
  refine (vs_num w4 w5 b [] 0 n K.out (by simp) (by have := NB.out; omega) (by have := NB.out; omega)).mono ?_
  rintro r w6 ⟨rfl, h6⟩
  replace K : Hid (Vs w4 w6 b (aW0 n).1 (aW0 n).2) := Lib.hid h6
  clear h6 BK
  go_wp2_with fail
  refine (vs_raw w4 w6 b _ _ A4 _ c4 (bytesO q) K.out EL.out.1 (by have := bytesO_len_ q; omega) O4.out.reads).mono ?_
  rintro r w7 ⟨rfl, h7⟩
  replace K : Hid (Vs w4 w7 b (aW1 n q).1 (aW1 n q).2) := Lib.hid h7
  clear h7
  go_wp2_with fail
  refine (vs_out w4 w7 b _ _ K.out EL.out.2).mono ?_
  rintro r w8 ⟨A9, c9, rfl, h9⟩
  have F := Lib.hid (h9.since C.out)
  clear h9
  go_wp2
  go_ret2
  exact ⟨A9, c9, rfl, F.out⟩
end
section
open Go.RowKit Go.WideShapes Go.ChangeShapes Go.Deep
set_option linter.unusedSimpArgs false
section
variable {H : Type} {enc : TypeId × Value → H} {w : World} {base : Nat} {spare : Nat → Bool} {held : Bool}
set_option maxRecDepth 100000 in
/-- A span's three cells. -/
theorem open_span {n : Nat} {cs : List Value} {y : DataW H × List MemPlace} (h : DataW.trod enc Tryz.prog w base spare held n 78 cs = some y) :
    ∃ (a b c : Int), cs = [.int .i64 a, .int .i64 b, .int .i64 c] := by
  obtain ⟨xs, k, rfl, rfl, hl, hx, hf⟩ := DataW.trod_struct Tryz.underlying78 h
  rw [show Tryz.prog.cellsOf 78 = 3 by kernel_rfl] at hl
  have g0 := hf 0 _ rfl
  have g1 := hf 1 _ rfl
  have g2 := hf 2 _ rfl
  change DataW.trod _ _ _ _ _ _ _ 3 ((cs.drop 0).take (Tryz.prog.cellsOf 3)) = _ at g0
  change DataW.trod _ _ _ _ _ _ _ 3 ((cs.drop 1).take (Tryz.prog.cellsOf 3)) = _ at g1
  change DataW.trod _ _ _ _ _ _ _ 3 ((cs.drop 2).take (Tryz.prog.cellsOf 3)) = _ at g2
  rw [show Tryz.prog.cellsOf 3 = 1 by kernel_rfl] at g0 g1 g2
  match cs, hl with
  | [v0, v1, v2], _ =>
    match xs, hx with
    | [x0, x1, x2], _ =>
      obtain ⟨z0, e0, _, _⟩ := DataW.trod_int Tryz.underlying3 g0
      obtain ⟨z1, e1, _, _⟩ := DataW.trod_int Tryz.underlying3 g1
      obtain ⟨z2, e2, _, _⟩ := DataW.trod_int Tryz.underlying3 g2
      simp only [List.drop_succ_cons, List.drop_zero, List.take_succ_cons, List.take_zero, List.cons.injEq, and_true] at e0 e1 e2
      subst e0 e1 e2
      exact ⟨z0, z1, z2, rfl⟩
theorem open_spans {n : Nat} {cs : List Value} {y : DataW H × List MemPlace} (h : DataW.trod enc Tryz.prog w base spare held n 22 cs = some y) (hz : ∀ k ∈ y.1.weights Tryz.prog 22, k ≤ reachBytes) :
    ∃ A m d zs, cs = [.slice A m d] ∧ RdK spanTy w A m zs ∧ m * 24 ≤ 140737488351232 ∧ m ≤ d := by
  rcases open_slice Tryz.underlying22 h with ⟨rfl, _⟩ | ⟨a, len, cap, m, k, D, Pl, rfl, _, hl, hm, hmm, rfl, hi⟩
  · exact ⟨none, 0, 0, [], rfl, RdK.nil _ _, by decide, by decide⟩
  · have hlm : len ≤ m := by rw [hmm]; split <;> omega
    obtain ⟨hw, _⟩ := weights_slice Tryz.underlying22 hz
    rw [show Tryz.prog.bytesOf 78 = 24 by kernel_rfl] at hw
    simp [reachBytes] at hw
    have hC : Tryz.prog.cellsOf 78 = 3 := by kernel_rfl
    obtain ⟨l, hll, hat⟩ := list_of (Q := fun i (x : Int × Int × Int) => w.cell? (a.add (i * 3)) = some (.int .i64 x.1) ∧ w.cell? (a.add (i * 3 + 1)) = some (.int .i64 x.2.1) ∧ w.cell? (a.add (i * 3 + 2)) = some (.int .i64 x.2.2)) len (fun i hilt => by
      obtain ⟨cs', hc, ht⟩ := hi i (by omega)
      rw [hC] at hc
      obtain ⟨_, hcl, hat⟩ := World.cells?_some hc
      obtain ⟨p, q, r, rfl⟩ := open_span ht
      have g0 := hat 0 (by omega)
      have g1 := hat 1 (by omega)
      have g2 := hat 2 (by omega)
      rw [add_add] at g0 g1 g2
      exact ⟨(p, q, r), g0, g1, g2⟩)
    refine ⟨some a, len, cap, l, rfl, ⟨hll, fun j v hj => ⟨a, rfl, ?_⟩⟩, by omega, hl⟩
    have hj2 := (List.getElem?_eq_some_iff.1 hj).1
    rw [spanTy.flat_len] at hj2
    have hk : spanTy.k = 3 := rfl
    rw [hk] at hj2
    have hq : j / 3 < l.length := by omega
    have e := spanTy.flat_at l (j / 3) (j % 3) _ (List.getElem?_eq_getElem hq) (Nat.mod_lt _ (by decide))
    rw [hk, Nat.div_add_mod', hj] at e
    obtain ⟨g0, g1, g2⟩ := hat (j / 3) _ (List.getElem?_eq_getElem hq)
    rcases (show j % 3 = 0 ∨ j % 3 = 1 ∨ j % 3 = 2 by omega) with h0 | h0 | h0
    · rw [h0] at e
      rw [show j / 3 * 3 = j by omega] at g0
      rw [g0]
      exact e.symm
    · rw [h0] at e
      rw [show j / 3 * 3 + 1 = j by omega] at g1
      rw [g1]
      exact e.symm
    · rw [h0] at e
      rw [show j / 3 * 3 + 2 = j by omega] at g2
      rw [g2]
      exact e.symm
end
end
section
open Go.RowKit Go.WideShapes Go.ChangeShapes Go.Deep
set_option linter.unusedVariables false
variable {H : Type} {enc : TypeId × Value → H} {P : Program} {w : World} {base : Nat} {spare : Nat → Bool} {held : Bool}
set_option maxRecDepth 100000 in
theorem open_archive {n : Nat} {cs : List Value} {y : DataW H × List MemPlace} (h : DataW.trod enc Tryz.prog w base spare held n 24 cs = some y) (hz : ∀ k ∈ y.1.weights Tryz.prog 24, k ≤ reachBytes) :
    ∃ (m : Int) (B : Option Addr) (q d : Nat) (zs : List (Int × Int × Int)), cs = [.int .i64 m, .slice B q d] ∧ RdK spanTy w B q zs ∧ q * 24 ≤ 140737488351232 ∧ q ≤ d := by
  obtain ⟨xs, k, rfl, rfl, hl, hx, hf⟩ := DataW.trod_struct Tryz.underlying24 h
  rw [show Tryz.prog.cellsOf 24 = 2 by kernel_rfl] at hl
  have g0 := hf 0 _ rfl
  have g1 := hf 1 _ rfl
  change DataW.trod _ _ _ _ _ _ _ 3 ((cs.drop 0).take (Tryz.prog.cellsOf 3)) = _ at g0
  change DataW.trod _ _ _ _ _ _ _ 22 ((cs.drop 1).take (Tryz.prog.cellsOf 22)) = _ at g1
  rw [show Tryz.prog.cellsOf 3 = 1 by kernel_rfl] at g0
  rw [show Tryz.prog.cellsOf 22 = 1 by kernel_rfl] at g1
  match cs, hl with
  | [v0, v1], _ =>
    match xs, hx with
    | [x0, x1], _ =>
      have w1 := weights_struct Tryz.underlying24 hz (j := 1) (d := x1.1) rfl rfl
      obtain ⟨z0, e0, _, _⟩ := DataW.trod_int Tryz.underlying3 g0
      obtain ⟨B, q, d, zs, e1, r1⟩ := open_spans g1 w1
      simp only [List.drop_succ_cons, List.drop_zero, List.take_succ_cons, List.take_zero, List.cons.injEq, and_true] at e0 e1
      subst e0 e1
      exact ⟨z0, B, q, d, zs, rfl, r1⟩
end
end Go.Proofs.YtgafkaigkaghcaaGreatDoor
