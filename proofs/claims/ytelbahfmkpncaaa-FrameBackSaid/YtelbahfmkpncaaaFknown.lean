/- The walk of FrameKnown. -/
import Derived.Test.YtelbahfmkpncaaaKnown17
namespace Go.Proofs.Ytelbahfmkpncaaa
open Go.RowKit
set_option linter.unusedSimpArgs false
set_option linter.unusedVariables false

theorem zero_chk : chkP 0 0 0 0 0 = 2 := by decide +kernel
theorem one_chk : chkP 1 0 0 0 1 = 2 := by decide +kernel
theorem read_none : readP [] = ((0, 0, 0, 0, []), (11, 0)) := by decide +kernel
theorem read_odd : readP (five.set 1 4) = ((0, 0, 0, 0, []), (11, 0)) := by decide +kernel
theorem five_one : five.getD 1 0 = 5 := by decide +kernel
theorem five_xor : bits .xor .u8 5 1 = 4 := by decide +kernel

theorem pget_nil (w : World) : Calls Try.prog 13 #[.slice none 0 0] w fun e w' => ∃ A' c', e = .returned (.tuple #[.agg #[.int .i64 0, .int .i64 0, .int .i64 0, .int .i64 0, .slice A' 0 c'], .agg #[.int .i64 11, .int .i64 0]]) ∧ Chg [] w w' := by
  have := pget_any w none 0 0 [] (Bs.nil _ _) (by decide) (by decide) (by decide)
  rw [read_none] at this
  refine this.mono ?_
  rintro e w' ⟨A', c', rfl, h⟩
  exact ⟨A', c', rfl, h.2.2⟩

set_option maxHeartbeats 4000000 in
theorem fknown_any (w : World) : Calls Try.prog 5 #[] w fun e w' => e = .returned (.bool true) ∧ Chg [] w w' := by
  go_enter Try.func5, Try.ntmps5
  go_wp2_with fail
  refine (part_any w).mono ?_
  rintro e w1 ⟨A1, rfl, f1⟩
  have hz := f1.2.2.size
  obtain ⟨w2, hw2⟩ : ∃ w2 : World, w2 = w1.alloc (.cells #[.int .i64 1, .int .i64 5, .int .i64 3, .int .i64 1, .slice A1 2 2] 41) := ⟨_, rfl⟩
  have b2 : w2.heap[w1.heap.size]? = some (.cells #[.int .i64 1, .int .i64 5, .int .i64 3, .int .i64 1, .slice A1 2 2] 41 (0, 0)) := hw2 ▸ heap_alloc_new w1 _
  have c2 : Chg [] w w2 := hw2 ▸ f1.2.2.alloc _
  have k0 := cell_of b2 0
  have k1 := cell_of b2 1
  have k2 := cell_of b2 2
  have k3 := cell_of b2 3
  have k4 := cell_of b2 4
  have fz := free_of b2 4
  simp only [List.getElem?_toArray, List.getElem?_cons_succ, List.getElem?_cons_zero] at k0 k1 k2 k3 k4
  have C2 := Lib.hid (c2.setCell (p := ⟨w1.heap.size, 4, none⟩) (.inr hz) (.slice none 0 0))
  have W2 := Lib.hid hw2
  clear hw2 b2 c2 f1 hz
  go_upto_region 2 with fail
  rw [← W2.out]
  generalize w1.heap.size = s0 at *
  go_wp2_with fail
  generalize w2.setCell ⟨s0, 4, none⟩ (.slice none 0 0) = w3 at *
  clear k0 k1 k2 k3 k4 fz
  refine (mcheck_none w3).mono ?_
  rintro e w4 ⟨rfl, c4⟩
  have C4 := Lib.hid (C2.out.trans c4)
  clear c4 C2
  go_wp2_with fail
  refine (mcheck_sized w4).mono ?_
  rintro e w5 ⟨rfl, c5⟩
  have C5 := Lib.hid (C4.out.trans c5)
  clear c5 C4
  go_wp2_with fail
  refine (pcheckp_any w5 0 0 0 0 none 0 0 (by decide)).mono ?_
  rw [zero_chk]
  rintro e w6 ⟨rfl, c6⟩
  have C6 := Lib.hid ((C5.out.trans c6).alloc (.cells #[.int .u8 1] 5))
  clear c6 C5
  go_wp2_with fail
  generalize w6.alloc (.cells #[.int .u8 1] 5) = w7 at *
  refine (pcheckp_any w7 1 0 0 0 _ 1 1 (by decide)).mono ?_
  rw [one_chk]
  rintro e w8 ⟨rfl, c8⟩
  have C8 := Lib.hid (C6.out.trans c8)
  clear c8 C6
  go_wp2_with fail
  refine (pput_five w8).mono ?_
  rintro e w9 ⟨A9, c9, rfl, f9⟩
  obtain ⟨ho, hnew, hc9⟩ := f9
  rcases ho with ⟨rfl, h0, _⟩ | ⟨g, full, rfl, hrow, hfl, hmx, hle, htk⟩
  · have := five_len
    rw [h0] at this
    cases this
  have R : Row w9 g full := hrow
  have hL := five_len
  have hcell := R.cell 1 (by omega)
  have hfr := free_of hrow 1
  have hg : full.getD 1 0 = 5 := by
    rw [← five_one, ← htk]
    simp [List.getD, List.getElem?_take, hL]
  rw [hg] at hcell
  have row3 := R.set 1 4 4 rfl
  have own3 : OwnB (w9.setCell ⟨g, 1, none⟩ (.int .u8 4)) (some ⟨g, 0, none⟩) c9 (five.set 1 4) := .inr ⟨g, full.set 1 4, rfl, row3, by simpa using hfl, hmx, by simpa using hle, by rw [List.length_set, List.take_set, htk]⟩
  have b3 := own3.reads
  rw [List.length_set, hL] at b3
  have hgt := pget_any _ (some ⟨g, 0, none⟩) 14 c9 (five.set 1 4) b3 (by decide) (by omega) (by unfold maxLen at hmx; omega)
  rw [read_odd] at hgt
  have HG := Lib.hid hgt
  have hs1 : w.heap.size ≤ g := by have := C8.out.size; have := hnew _ rfl; simp at this; omega
  have C9 := Lib.hid ((C8.out.trans hc9).setCell (p := ⟨g, 1, none⟩) (.inr hs1) (.int .u8 4))
  have hx := five_xor
  clear hrow hnew R hg row3 own3 b3 hgt hfl hmx htk hc9 C8 hL hs1 hle
  go_wp2_with fail
  refine HG.out.mono ?_
  rintro e w4 ⟨A4, c4, rfl, f4⟩
  have C4 := Lib.hid (C9.out.trans f4.2.2)
  clear f4 HG C9 hcell hfr hx
  obtain ⟨wa, hwa⟩ : ∃ wa : World, wa = (w4.alloc (.cells #[.int .i64 0, .int .i64 0, .int .i64 0, .int .i64 0, .slice A4 0 c4] 24)).alloc (.cells #[.int .i64 11, .int .i64 0] 32) := ⟨_, rfl⟩
  have ca : Chg [] w4 wa := hwa ▸ ((Chg.refl [] w4).alloc _).alloc _
  have ba : wa.heap[w4.heap.size + 1]? = some (.cells #[.int .i64 11, .int .i64 0] 32 (0, 0)) := hwa ▸ heap_alloc_two w4 _ _
  have BA := Lib.hid ba
  have CA := Lib.hid (C4.out.trans ca)
  have WA := Lib.hid hwa
  clear ca ba hwa C4
  go_wp2_with fail
  rw [← WA.out]
  generalize w4.heap.size + 1 = s2 at *
  refine (pget_nil wa).mono ?_
  rintro e wb ⟨A5, c5, rfl, hb⟩
  have BA := Lib.hid (hb.at_ BA.out (by simp))
  have CB := Lib.hid (CA.out.trans hb)
  clear hb CA
  obtain ⟨wc, hwc⟩ : ∃ wc : World, wc = (wb.alloc (.cells #[.int .i64 0, .int .i64 0, .int .i64 0, .int .i64 0, .slice A5 0 c5] 24)).alloc (.cells #[.int .i64 11, .int .i64 0] 32) := ⟨_, rfl⟩
  have cc : Chg [] wb wc := hwc ▸ ((Chg.refl [] wb).alloc _).alloc _
  have bc : wc.heap[wb.heap.size + 1]? = some (.cells #[.int .i64 11, .int .i64 0] 32 (0, 0)) := hwc ▸ heap_alloc_two wb _ _
  have BA := Lib.hid (cc.at_ BA.out (by simp))
  have BC := Lib.hid bc
  have CC := Lib.hid (CB.out.trans cc)
  have WC := Lib.hid hwc
  clear cc bc hwc CB
  go_wp2_with fail
  rw [← WC.out]
  generalize wb.heap.size + 1 = s3 at *
  refine (mget_nil wc).mono ?_
  rintro e wd ⟨rfl, hd⟩
  have BA := Lib.hid (hd.at_ BA.out (by simp))
  have BC := Lib.hid (hd.at_ BC.out (by simp))
  have CD := Lib.hid (CC.out.trans hd)
  clear hd CC
  obtain ⟨we, hwe⟩ : ∃ we : World, we = (wd.alloc (.cells #[.int .i64 0, .int .i64 0, .int .i64 0, .int .i64 0, .slice none 0 0] 41)).alloc (.cells #[.int .i64 4, .int .i64 0] 32) := ⟨_, rfl⟩
  have ce : Chg [] wd we := hwe ▸ ((Chg.refl [] wd).alloc _).alloc _
  have be : we.heap[wd.heap.size + 1]? = some (.cells #[.int .i64 4, .int .i64 0] 32 (0, 0)) := hwe ▸ heap_alloc_two wd _ _
  have BA := Lib.hid (ce.at_ BA.out (by simp))
  have BC := Lib.hid (ce.at_ BC.out (by simp))
  have BE := Lib.hid be
  have CE := Lib.hid (CD.out.trans ce)
  have WE := Lib.hid hwe
  clear ce be hwe CD
  go_wp2_with fail
  rw [← WE.out]
  generalize wd.heap.size + 1 = s4 at *
  refine (awake17_any we).mono ?_
  rintro e wf ⟨rfl, hf⟩
  have qa := hf.at_ BA.out (by simp)
  have qc := hf.at_ BC.out (by simp)
  have qe := hf.at_ BE.out (by simp)
  have z0 := cell_of qa 0
  have z1 := cell_of qa 1
  have z2 := cell_of qc 0
  have z3 := cell_of qc 1
  have z4 := cell_of qe 0
  have z5 := cell_of qe 1
  simp only [List.getElem?_toArray, List.getElem?_cons_succ, List.getElem?_cons_zero] at z0 z1 z2 z3 z4 z5
  have CF := Lib.hid (CE.out.trans hf)
  clear hf qa qc qe BA BC BE CE
  go_wp2_with fail
  go_ret
  exact ⟨rfl, CF.out⟩
end Go.Proofs.Ytelbahfmkpncaaa
