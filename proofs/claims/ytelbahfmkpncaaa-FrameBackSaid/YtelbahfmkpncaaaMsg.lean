/- Package frame: PutMessage of the chapter's two messages. -/
import Derived.Test.YtelbahfmkpncaaaPut
import Derived.Test.YtelbahfmkpncaaaKit
import Derived.Deep.Cut
import Derived.Deep.CutRange
namespace Go.Proofs.Ytelbahfmkpncaaa
open Go.RowKit
set_option linter.unusedSimpArgs false

set_option maxHeartbeats 4000000 in
theorem maybe_part (w : World) (A : Option Addr) (c : Nat) :
    Calls Try.prog 52 #[.agg #[.int .i64 1, .int .i64 5, .int .i64 3, .int .i64 1, .slice A 2 c]] w fun e w' => e = .returned (.bool true) ∧ Chg [] w w' := by
  go_enter Try.func52, Try.ntmps52
  go_wp2
  go_ret
  exact ⟨rfl, (Chg.refl _ _).alloc _⟩
set_option maxHeartbeats 4000000 in
theorem mcheck_part (w : World) (A : Option Addr) (c : Nat) :
    Calls Try.prog 27 #[.agg #[.int .i64 1, .int .i64 5, .int .i64 3, .int .i64 1, .slice A 2 c]] w fun e w' => e = .returned (.int .i64 0) ∧ Chg [] w w' := by
  have c0 := Lib.hid ((Chg.refl [] w).alloc (.cells #[.int .i64 1, .int .i64 5, .int .i64 3, .int .i64 1, .slice A 2 c] 41))
  go_enter Try.func27, Try.ntmps27
  go_wp2_with (go_at_call 52; refine (maybe_part _ A c).mono ?_; rintro e w1 ⟨rfl, hc⟩; have C1 := Lib.hid (c0.out.trans hc); clear hc)
  go_ret
  exact ⟨rfl, C1.out⟩
set_option maxHeartbeats 4000000 in
theorem mcheck_got (w : World) :
    Calls Try.prog 27 #[.agg #[.int .i64 3, .int .i64 5, .int .i64 0, .int .i64 0, .slice none 0 0]] w fun e w' => e = .returned (.int .i64 0) ∧ Chg [] w w' := by
  go_enter Try.func27, Try.ntmps27
  go_wp2
  go_ret
  exact ⟨rfl, (Chg.refl _ _).alloc _⟩
/-- The bytes of the chapter's part. -/
def partB : List UInt8 := [1, 1, 1, 5, 1, 3, 1, 1, 1, 2, 7, 8]
set_option maxHeartbeats 4000000 in
theorem mput_part (w : World) (A : Option Addr) (c : Nat) (h : Bs w A 2 [7, 8]) :
    Calls Try.prog 22 #[.agg #[.int .i64 1, .int .i64 5, .int .i64 3, .int .i64 1, .slice A 2 c]] w fun e w' => ∃ A' c', e = .returned (.tuple #[.slice A' 12 c', .int .i64 0]) ∧ Fresh w w' A' c' [1, 1, 1, 5, 1, 3, 1, 1, 1, 2, 7, 8] := by
  obtain ⟨w0, hw0⟩ : ∃ w0 : World, w0 = w.alloc (.cells #[.int .i64 1, .int .i64 5, .int .i64 3, .int .i64 1, .slice A 2 c] 41) := ⟨_, rfl⟩
  have c0 : Chg [] w w0 := hw0 ▸ (Chg.refl [] w).alloc _
  have b0 : w0.heap[w.heap.size]? = some (.cells #[.int .i64 1, .int .i64 5, .int .i64 3, .int .i64 1, .slice A 2 c] 41 (0, 0)) := hw0 ▸ heap_alloc_new w _
  have k0 := cell_of b0 0
  have k1 := cell_of b0 1
  have k2 := cell_of b0 2
  have k3 := cell_of b0 3
  have k4 := cell_of b0 4
  simp only [List.getElem?_toArray, List.getElem?_cons_succ, List.getElem?_cons_zero] at k0 k1 k2 k3 k4
  have J0 := Lib.hid k0
  have J1 := Lib.hid k1
  have J2 := Lib.hid k2
  have J3 := Lib.hid k3
  have J4 := Lib.hid k4
  have H := Lib.hid (h.chg c0 (by simp))
  clear h
  have W0 := Lib.hid hw0
  have C0 := Lib.hid c0
  clear hw0 c0 b0 k0 k1 k2 k3 k4
  have HC := Lib.hid (mcheck_part w0 A c)
  go_enter Try.func22, Try.ntmps22
  go_wp2_with fail
  rw [← W0.out]
  refine HC.out.mono ?_
  rintro e w1 ⟨rfl, c1⟩
  have C1 := Lib.hid c1
  clear c1
  generalize w.heap.size = s at *
  go_wp2_with fail
  refine (ws_new w0 w1 C1.out).mono ?_
  rintro e w2 ⟨b, rfl, h2⟩
  have k0 := h2.chg.cell J0.out (by simp)
  have K2 := Lib.hid h2
  clear h2 C1
  have E2 : wNum [] 0 1 = ([1, 1], 0) := by decide +kernel
  have EE2 := Lib.hid E2
  clear E2
  go_wp2_with fail
  refine (ws_num w0 w2 b [] 0 1 K2.out (by simp)).mono ?_
  rintro e w3 ⟨rfl, h3⟩
  rw [EE2.out] at h3
  clear k0
  have k0 := h3.chg.cell J0.out (by simp)
  have k1 := h3.chg.cell J1.out (by simp)
  have K3 := Lib.hid h3
  clear h3 K2
  have E3 : wNum [1, 1] 0 5 = ([1, 1, 1, 5], 0) := by decide +kernel
  have EE3 := Lib.hid E3
  clear E3
  go_wp2_with fail
  refine (ws_num w0 w3 b [1, 1] 0 5 K3.out (by simp)).mono ?_
  rintro e w4 ⟨rfl, h4⟩
  rw [EE3.out] at h4
  clear k1
  have k0 := h4.chg.cell J0.out (by simp)
  have k2 := h4.chg.cell J2.out (by simp)
  have K4 := Lib.hid h4
  clear h4 K3
  have E4 : wNum [1, 1, 1, 5] 0 3 = ([1, 1, 1, 5, 1, 3], 0) := by decide +kernel
  have EE4 := Lib.hid E4
  clear E4
  go_wp2_with fail
  refine (ws_num w0 w4 b [1, 1, 1, 5] 0 3 K4.out (by simp)).mono ?_
  rintro e w5 ⟨rfl, h5⟩
  rw [EE4.out] at h5
  clear k2
  have k3 := h5.chg.cell J3.out (by simp)
  have K5 := Lib.hid h5
  clear h5 K4
  have E5 : wNum [1, 1, 1, 5, 1, 3] 0 1 = ([1, 1, 1, 5, 1, 3, 1, 1], 0) := by decide +kernel
  have EE5 := Lib.hid E5
  clear E5
  go_wp2_with fail
  refine (ws_num w0 w5 b [1, 1, 1, 5, 1, 3] 0 1 K5.out (by simp)).mono ?_
  rintro e w6 ⟨rfl, h6⟩
  rw [EE5.out] at h6
  clear k3
  have k4 := h6.chg.cell J4.out (by simp)
  have K6 := Lib.hid h6
  clear h6 K5
  have E6 : wRaw [1, 1, 1, 5, 1, 3, 1, 1] 0 [7, 8] = ([1, 1, 1, 5, 1, 3, 1, 1, 1, 2, 7, 8], 0) := by decide +kernel
  have EE6 := Lib.hid E6
  clear E6
  go_wp2_with fail
  refine (ws_raw w0 w6 b [1, 1, 1, 5, 1, 3, 1, 1] 0 A 2 c [7, 8] K6.out (by simp) (by decide) H.out).mono ?_
  rintro e w7 ⟨rfl, h7⟩
  rw [EE6.out] at h7
  have K7 := Lib.hid h7
  clear h7 K6
  go_wp2_with fail
  refine (ws_out w0 w7 b [1, 1, 1, 5, 1, 3, 1, 1, 1, 2, 7, 8] 0 K7.out (by simp)).mono ?_
  rintro e w9 ⟨A8, c8, rfl, h8⟩
  have K9 := Lib.hid (h8.since C0.out)
  clear h8 K7
  go_wp2
  go_ret2
  exact ⟨A8, c8, rfl, K9.out⟩
set_option maxHeartbeats 4000000 in
theorem mput_got (w : World) :
    Calls Try.prog 22 #[.agg #[.int .i64 3, .int .i64 5, .int .i64 0, .int .i64 0, .slice none 0 0]] w fun e w' => ∃ A' c', e = .returned (.tuple #[.slice A' 4 c', .int .i64 0]) ∧ Fresh w w' A' c' [1, 3, 1, 5] := by
  obtain ⟨w0, hw0⟩ : ∃ w0 : World, w0 = w.alloc (.cells #[.int .i64 3, .int .i64 5, .int .i64 0, .int .i64 0, .slice none 0 0] 41) := ⟨_, rfl⟩
  have c0 : Chg [] w w0 := hw0 ▸ (Chg.refl [] w).alloc _
  have b0 : w0.heap[w.heap.size]? = some (.cells #[.int .i64 3, .int .i64 5, .int .i64 0, .int .i64 0, .slice none 0 0] 41 (0, 0)) := hw0 ▸ heap_alloc_new w _
  have k0 := cell_of b0 0
  have k1 := cell_of b0 1
  have k2 := cell_of b0 2
  have k3 := cell_of b0 3
  have k4 := cell_of b0 4
  simp only [List.getElem?_toArray, List.getElem?_cons_succ, List.getElem?_cons_zero] at k0 k1 k2 k3 k4
  have J0 := Lib.hid k0
  have J1 := Lib.hid k1
  have J2 := Lib.hid k2
  have J3 := Lib.hid k3
  have J4 := Lib.hid k4
  have W0 := Lib.hid hw0
  have C0 := Lib.hid c0
  clear hw0 c0 b0 k0 k1 k2 k3 k4
  have HC := Lib.hid (mcheck_got w0)
  go_enter Try.func22, Try.ntmps22
  go_wp2_with fail
  rw [← W0.out]
  refine HC.out.mono ?_
  rintro e w1 ⟨rfl, c1⟩
  have C1 := Lib.hid c1
  clear c1
  generalize w.heap.size = s at *
  go_wp2_with fail
  refine (ws_new w0 w1 C1.out).mono ?_
  rintro e w2 ⟨b, rfl, h2⟩
  have k0 := h2.chg.cell J0.out (by simp)
  have K2 := Lib.hid h2
  clear h2 C1
  have E2 : wNum [] 0 3 = ([1, 3], 0) := by decide +kernel
  have EE2 := Lib.hid E2
  clear E2
  go_wp2_with fail
  refine (ws_num w0 w2 b [] 0 3 K2.out (by simp)).mono ?_
  rintro e w3 ⟨rfl, h3⟩
  rw [EE2.out] at h3
  clear k0
  have k0 := h3.chg.cell J0.out (by simp)
  have k1 := h3.chg.cell J1.out (by simp)
  have K3 := Lib.hid h3
  clear h3 K2
  have E3 : wNum [1, 3] 0 5 = ([1, 3, 1, 5], 0) := by decide +kernel
  have EE3 := Lib.hid E3
  clear E3
  go_wp2_with fail
  refine (ws_num w0 w3 b [1, 3] 0 5 K3.out (by simp)).mono ?_
  rintro e w4 ⟨rfl, h4⟩
  rw [EE3.out] at h4
  clear k1
  have k0 := h4.chg.cell J0.out (by simp)
  have k2 := h4.chg.cell J2.out (by simp)
  have K4 := Lib.hid h4
  clear h4 K3
  go_wp2_with fail
  refine (ws_out w0 w4 b [1, 3, 1, 5] 0 K4.out (by simp)).mono ?_
  rintro e w9 ⟨A8, c8, rfl, h8⟩
  have K9 := Lib.hid (h8.since C0.out)
  clear h8 K4
  go_wp2
  go_ret2
  exact ⟨A8, c8, rfl, K9.out⟩
end Go.Proofs.Ytelbahfmkpncaaa
