/- The walk of FrameDamaged. -/
import Derived.Test.YtelbahfmkpncaaaPaw
import Derived.Test.YtelbahfmkpncaaaFmath
namespace Go.Proofs.Ytelbahfmkpncaaa
open Go.RowKit
set_option linter.unusedSimpArgs false
set_option linter.unusedVariables false

theorem pkO_odd {f t m a : Int} {ys : List UInt8} (h : ¬ FineP f t m a ys.length) : pkO f t m a ys = [] := if_neg h
theorem pkO_fine {f t m a : Int} {ys : List UInt8} (h : FineP f t m a ys.length) : pkO f t m a ys = pkB f t m a ys ++ sumB (pkB f t m a ys) := if_pos h

set_option maxHeartbeats 4000000 in
theorem damaged_odd (w : World) (f t m a x k : Int) (A : Option Addr) (n c : Nat) (ys : List UInt8) (h : Bs w A n ys) (hn : n ≤ 140737488351232) (ho : ¬ FineP f t m a n) :
    Calls Try.prog 7 #[.agg #[.int .i64 f, .int .i64 t, .int .i64 m, .int .i64 a, .slice A n c], .int .i64 x, .int .u8 k] w fun r w' => r = .returned (.bool true) ∧ Chg [] w w' := by
  have hl := h.len
  subst hl
  obtain ⟨w0, hw0⟩ : ∃ w0 : World, w0 = w.alloc (.cells #[.int .i64 f, .int .i64 t, .int .i64 m, .int .i64 a, .slice A ys.length c] 24) := ⟨_, rfl⟩
  have c0 : Chg [] w w0 := hw0 ▸ (Chg.refl [] w).alloc _
  have b0 : w0.heap[w.heap.size]? = some (.cells #[.int .i64 f, .int .i64 t, .int .i64 m, .int .i64 a, .slice A ys.length c] 24 (0, 0)) := hw0 ▸ heap_alloc_new w _
  have H := Lib.hid (h.chg c0 (by simp))
  have B0 := Lib.hid b0
  have W0 := Lib.hid hw0
  have C0 := Lib.hid c0
  have HO := Lib.hid ho
  clear hw0 c0 b0 h ho
  go_enter Try.func7, Try.ntmps7
  go_wp2_with fail
  rw [← W0.out]
  refine (awake17_any w0).mono ?_
  rintro e w1 ⟨rfl, c1⟩
  have q := c1.at_ B0.out (by simp)
  have k0 := cell_of q 0
  have k1 := cell_of q 1
  have k2 := cell_of q 2
  have k3 := cell_of q 3
  have k4 := cell_of q 4
  simp only [List.getElem?_toArray, List.getElem?_cons_succ, List.getElem?_cons_zero] at k0 k1 k2 k3 k4
  have B1 := Lib.hid q
  have H1 := Lib.hid (H.out.chg c1 (by simp))
  have C1 := Lib.hid (C0.out.trans c1)
  clear c1 q B0 H
  generalize w.heap.size = s0 at *
  go_wp2_with fail
  refine (pput_any w1 f t m a A ys.length c ys H1.out hn).mono ?_
  rw [pkO_odd HO.out, chkP_odd HO.out]
  rintro e w2 ⟨A2, c2, rfl, f2⟩
  have q := f2.2.2.at_ B1.out (by simp)
  have k4 := cell_of q 4
  simp only [List.getElem?_toArray, List.getElem?_cons_succ, List.getElem?_cons_zero] at k4
  have C2 := Lib.hid (C1.out.trans f2.2.2)
  clear f2 q k0 k1 k2 k3 B1 H1 C1
  by_cases hbig : 400 < ys.length
  · go_wp2
    go_ret
    exact ⟨rfl, C2.out⟩
  · go_wp2
    go_ret
    exact ⟨rfl, C2.out⟩
end Go.Proofs.Ytelbahfmkpncaaa
