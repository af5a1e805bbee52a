/- Messages: the same, a copy. -/
import Derived.Test.YtelbahfmkpncaaaNget
namespace Go.Proofs.Ytelbahfmkpncaaa
open Go.RowKit
set_option linter.unusedSimpArgs false
set_option linter.unusedVariables false

set_option maxHeartbeats 4000000 in
theorem samem_yes (w : World) (k i s a : Int) (A B : Option Addr) (n c n' d : Nat) (xs : List UInt8) (h : Bs w A n xs) (h' : Bs w B n' xs) :
    Calls Try.prog 26 #[.agg #[.int .i64 k, .int .i64 i, .int .i64 s, .int .i64 a, .slice A n c], .agg #[.int .i64 k, .int .i64 i, .int .i64 s, .int .i64 a, .slice B n' d]] w fun e w' => e = .returned (.bool true) ∧ Chg [] w w' := by
  have c0 := ((Chg.refl [] w).alloc (.cells #[.int .i64 k, .int .i64 i, .int .i64 s, .int .i64 a, .slice A n c] 41)).alloc (.cells #[.int .i64 k, .int .i64 i, .int .i64 s, .int .i64 a, .slice B n' d] 41)
  have C0 := Lib.hid c0
  have H := Lib.hid (h.chg c0 (by simp))
  have H' := Lib.hid (h'.chg c0 (by simp))
  clear c0 h h'
  go_enter Try.func26, Try.ntmps26
  go_wp2_with fail
  refine (same_yes _ A B n n' c d xs xs H.out H'.out rfl).mono ?_
  rintro e w1 ⟨rfl, rfl⟩
  go_wp2
  go_ret
  exact ⟨rfl, C0.out⟩

set_option maxHeartbeats 4000000 in
theorem copym_any (w : World) (k i s a : Int) (A : Option Addr) (n c : Nat) (xs : List UInt8) (h : Bs w A n xs) (hn : n ≤ 140737488351232) :
    Calls Try.prog 21 #[.agg #[.int .i64 k, .int .i64 i, .int .i64 s, .int .i64 a, .slice A n c]] w fun e w' => ∃ A' c', e = .returned (.agg #[.int .i64 k, .int .i64 i, .int .i64 s, .int .i64 a, .slice A' n c']) ∧ Fresh w w' A' c' xs := by
  obtain ⟨w0, hw0, c0, b0, b1⟩ := news2 w (.cells #[.int .i64 k, .int .i64 i, .int .i64 s, .int .i64 a, .slice A n c] 41) (.cells #[.int .i64 0, .int .i64 0, .int .i64 0, .int .i64 0, .slice none 0 0] 41)
  have W0 := Lib.hid hw0
  have H := Lib.hid (h.chg c0 (by simp))
  have HS0 := Lib.hid (fun (w' : World) (j : Nat) (v : Value) (h : Chg [] w w') => h.put (s := w.heap.size) (Nat.le_refl _) j v)
  have HS1 := Lib.hid (fun (w' : World) (j : Nat) (v : Value) (h : Chg [] w w') => h.put (s := w.heap.size + 1) (Nat.le_succ _) j v)
  have hs2 : ¬ w.heap.size = w.heap.size + 1 := by omega
  have d5 : ¬ w.heap.size + 1 = w.heap.size := by omega
  have g0 := lt_of_heap b0
  have g1 := lt_of_heap b1
  have C0 := Lib.hid c0
  have B0 := Lib.hid b0
  have B1 := Lib.hid b1
  clear hw0 c0 b0 b1 h
  go_enter Try.func21, Try.ntmps21
  go_upto_region 1 with fail
  rw [← W0.out]
  generalize w.heap.size + 1 = s1 at *
  generalize w.heap.size = s0 at *
  have z4 := cell_of B0.out 4
  simp only [List.getElem?_toArray, List.getElem?_cons_succ, List.getElem?_cons_zero] at z4
  go_wp2_with fail
  clear z4
  refine (copy_any w0 A n c xs H.out hn).mono ?_
  rintro e w1 ⟨A1, c1, rfl, f1⟩
  have b0 := f1.2.2.at_ B0.out (by simp)
  have b1 := f1.2.2.at_ B1.out (by simp)
  have n1 : ∀ a, A1 = some a → a.block ∉ [s0, s1] := fun a e => by have := f1.2.1 a e; simp; omega
  have p0 := heap_setCell_same w1 s0 4 _ _ (.slice A1 n c1) b0
  have p1 := ((Chg.refl [s0] w1).setCell (p := ⟨s0, 4, none⟩) (.inl (by simp)) (.slice A1 n c1)).at_ b1 (by simpa using fun e => hs2 e.symm)
  simp only [List.setIfInBounds_toArray, List.set_cons_zero, List.set_cons_succ] at p0
  have f4 := free_of b0 4
  have z4 := cell_of b0 4
  simp only [List.getElem?_toArray, List.getElem?_cons_succ, List.getElem?_cons_zero] at z4
  have C1 := Lib.hid (HS0.out _ 4 (.slice A1 n c1) (C0.out.trans f1.2.2))
  have O1 := Lib.hid (f1.1.chg ((Chg.refl [s0, s1] w1).setCell (p := ⟨s0, 4, none⟩) (.inl (by simp)) (.slice A1 n c1)) n1)
  have N1 := Lib.hid f1.2.1
  have L1 := Lib.hid n1
  have P0 := Lib.hid p0
  have P1 := Lib.hid p1
  clear p0 p1 b0 b1 f1 n1
  go_upto_region 2 with fail
  generalize w1.setCell ⟨s0, 4, none⟩ (.slice A1 n c1) = w2 at *
  clear z4 f4
  have z0 := cell_of P0.out 0
  have z1 := cell_of P0.out 1
  have z2 := cell_of P0.out 2
  have z3 := cell_of P0.out 3
  have z4 := cell_of P0.out 4
  have y0 := cell_of P1.out 0
  have y1 := cell_of P1.out 1
  have y2 := cell_of P1.out 2
  have y3 := cell_of P1.out 3
  have y4 := cell_of P1.out 4
  have k0 := free_of P1.out 0
  have k1 := free_of P1.out 1
  have k2 := free_of P1.out 2
  have k3 := free_of P1.out 3
  have k4 := free_of P1.out 4
  simp only [List.getElem?_toArray, List.getElem?_cons_succ, List.getElem?_cons_zero] at z0 z1 z2 z3 z4 y0 y1 y2 y3 y4
  have P2 := Lib.hid (put5_0 (.int .i64 k) (.int .i64 i) (.int .i64 s) (.int .i64 a) (.slice A1 n c1) P1.out)
  have C2 := Lib.hid (HS1.out _ 4 (.slice A1 n c1) (HS1.out _ 3 (.int .i64 a) (HS1.out _ 2 (.int .i64 s) (HS1.out _ 1 (.int .i64 i) (HS1.out _ 0 (.int .i64 k) C1.out)))))
  have O2 := Lib.hid (O1.out.chg ((((((Chg.refl [s0, s1] w2).setCell (p := ⟨s1, 0, none⟩) (.inl (by simp)) (.int .i64 k)).setCell (p := ⟨s1, 1, none⟩) (.inl (by simp)) (.int .i64 i)).setCell (p := ⟨s1, 2, none⟩) (.inl (by simp)) (.int .i64 s)).setCell (p := ⟨s1, 3, none⟩) (.inl (by simp)) (.int .i64 a)).setCell (p := ⟨s1, 4, none⟩) (.inl (by simp)) (.slice A1 n c1)) L1.out)
  go_wp2
  clear z0 z1 z2 z3 z4 y0 y1 y2 y3 y4 k0 k1 k2 k3 k4
  generalize (((((w2.setCell ⟨s1, 0, none⟩ (.int .i64 k)).setCell ⟨s1, 1, none⟩ (.int .i64 i)).setCell ⟨s1, 2, none⟩ (.int .i64 s)).setCell ⟨s1, 3, none⟩ (.int .i64 a)).setCell ⟨s1, 4, none⟩ (.slice A1 n c1)) = W at *
  have z0 := cell_of P2.out 0
  have z1 := cell_of P2.out 1
  have z2 := cell_of P2.out 2
  have z3 := cell_of P2.out 3
  have z4 := cell_of P2.out 4
  simp only [List.getElem?_toArray, List.getElem?_cons_succ, List.getElem?_cons_zero] at z0 z1 z2 z3 z4
  refine bodyPost_ret (v := .agg #[.int .i64 k, .int .i64 i, .int .i64 s, .int .i64 a, .slice A1 n c1]) (by simp [results, Try.results21, go_sem, z0, z1, z2, z3, z4]) rfl ?_
  exact ⟨A1, c1, rfl, O2.out, fun a e => Nat.le_trans C0.out.size (N1.out a e), C2.out⟩
end Go.Proofs.Ytelbahfmkpncaaa
