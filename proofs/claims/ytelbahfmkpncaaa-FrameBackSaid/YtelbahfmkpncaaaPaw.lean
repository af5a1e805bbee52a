/- Layer 17: awake. -/
import Derived.Test.YtelbahfmkpncaaaGet2
import Derived.Test.YtelbahfmkpncaaaMsg
namespace Go.Proofs.Ytelbahfmkpncaaa
open Go.RowKit
set_option linter.unusedSimpArgs false
set_option linter.unusedVariables false

theorem Bs.fill {w : World} {g n : Nat} {C : Array Value} (xs : List UInt8) {fr : Nat × Nat} (hg : w.heap[g]? = some (.cells C 5 fr)) (h : C.toList = xs.map bv) (hn : xs.length = n) : Bs w (some ⟨g, 0, none⟩) n xs :=
  ⟨hn, fun j u hj => ⟨_, rfl, by
    rw [add_zero_lit]
    have e : w.cell? ⟨g, j, none⟩ = C[j]? := by simp [World.cell?, hg]
    rw [e, ← Array.getElem?_toList, h, List.getElem?_map, hj]; rfl⟩⟩

theorem pget_any (w : World) (A : Option Addr) (n c : Nat) (xs : List UInt8) (h : Bs w A n xs) (hn : n ≤ 140737488351232) (hc1 : n ≤ c) (hc2 : c ≤ 9223372036854775807) :
    Calls Try.prog 13 #[.slice A n c] w (ReadPPost w (readP xs)) := by
  have hl := h.len
  subst hl
  by_cases h8 : xs.length < 8
  · have e : readP xs = ((0, 0, 0, 0, []), (11, 0)) := by unfold readP; rw [if_neg (by unfold whole; omega)]
    rw [e]
    exact pget_short w A _ c xs h hn h8
  · obtain ⟨g, o, rfl, _⟩ := h.line (by omega)
    obtain ⟨m, hm⟩ : ∃ m, xs.length = m + 8 := ⟨xs.length - 8, by omega⟩
    rw [hm] at h hn hc1 ⊢
    have e8 : xs.length - 8 = m := by omega
    cases hs : (sumB (xs.take m) == xs.drop m) with
    | true =>
      have e : readP xs = readQ (xs.take m) := by unfold readP; rw [if_pos (by unfold whole; rw [e8]; exact ⟨by omega, by simpa using hs⟩), e8]
      rw [e]
      exact pget_good w g o c m xs h hn hc1 hc2 hs
    | false =>
      have e : readP xs = ((0, 0, 0, 0, []), (11, 0)) := by unfold readP; rw [if_neg (by unfold whole; rw [e8]; rintro ⟨_, h⟩; rw [h] at hs; simp at hs)]
      rw [e]
      exact pget_bad w g o c m xs h hn hc1 hc2 hs

set_option maxHeartbeats 400000 in
theorem part_any (w : World) : Calls Try.prog 29 #[] w fun e w' => ∃ A, e = .returned (.agg #[.int .i64 1, .int .i64 5, .int .i64 3, .int .i64 1, .slice A 2 2]) ∧ Fresh w w' A 2 [7, 8] := by
  go_enter Try.func29, Try.ntmps29
  go_wp2
  have b0 := ((Chg.refl [] (w.alloc (.cells #[.int .i64 1, .int .i64 5, .int .i64 3, .int .i64 1, .slice (some ⟨w.heap.size + 1, 0, none⟩) 2 2] 41))).alloc (.cells #[.int .u8 7, .int .u8 8] 5)).at_ (heap_alloc_new w (.cells #[.int .i64 1, .int .i64 5, .int .i64 3, .int .i64 1, .slice (some ⟨w.heap.size + 1, 0, none⟩) 2 2] 41)) (by simp)
  have z0 := cell_of b0 0
  have z1 := cell_of b0 1
  have z2 := cell_of b0 2
  have z3 := cell_of b0 3
  have z4 := cell_of b0 4
  simp only [List.getElem?_toArray, List.getElem?_cons_succ, List.getElem?_cons_zero] at z0 z1 z2 z3 z4
  refine bodyPost_ret (v := .agg #[.int .i64 1, .int .i64 5, .int .i64 3, .int .i64 1, .slice (some ⟨w.heap.size + 1, 0, none⟩) 2 2]) (by simp [results, Try.results29, go_sem, z0, z1, z2, z3, z4]) rfl ?_
  exact ⟨some ⟨w.heap.size + 1, 0, none⟩, rfl, .of (full := [7, 8]) (heap_alloc_two w _ _) (by simp) (by simp [maxLen]) rfl rfl, by simp, ((Chg.refl _ _).alloc _).alloc _⟩

/-- The bytes of the chapter's packet. -/
def five : List UInt8 := pkO 5 0 0 0 []
theorem five_len : five.length = 14 := by decide +kernel
theorem five_chk : chkP 5 0 0 0 0 = 0 := by decide +kernel
theorem five_read : readP five = ((5, 0, 0, 0, []), (0, 0)) := by decide +kernel
theorem pput_five (w : World) : Calls Try.prog 11 #[.agg #[.int .i64 5, .int .i64 0, .int .i64 0, .int .i64 0, .slice none 0 0]] w fun e w' => ∃ A' c', e = .returned (.tuple #[.slice A' 14 c', .int .i64 0]) ∧ Fresh w w' A' c' five := by
  refine (pput_any w 5 0 0 0 none 0 0 [] (Bs.nil _ _) (by decide)).mono ?_
  rintro e w' ⟨A, c, rfl, h⟩
  rw [five_chk]
  change Fresh w w' A c five at h
  refine ⟨A, c, ?_, h⟩
  change Ending.returned (.tuple #[.slice A five.length c, _]) = _
  rw [five_len]
theorem pget_five (w : World) (A : Option Addr) (c : Nat) (h : OwnB w A c five) : Calls Try.prog 13 #[.slice A 14 c] w fun e w' => ∃ A' c', e = .returned (.tuple #[.agg #[.int .i64 5, .int .i64 0, .int .i64 0, .int .i64 0, .slice A' 0 c'], .agg #[.int .i64 0, .int .i64 0]]) ∧ Chg [] w w' := by
  have hb := h.reads
  rw [five_len] at hb
  have hcap := h.cap
  rw [five_len] at hcap
  have := pget_any w A 14 c five hb (by decide) hcap.1 (by have := hcap.2; unfold maxLen at this; omega)
  rw [five_read] at this
  refine this.mono ?_
  rintro e w' ⟨A', c', rfl, h⟩
  exact ⟨A', c', rfl, h.2.2⟩

set_option maxHeartbeats 4000000 in
theorem awake17_any (w : World) : Calls Try.prog 8 #[] w fun e w' => e = .returned (.bool true) ∧ Chg [] w w' := by
  go_enter Try.func8, Try.ntmps8
  go_wp2_with fail
  refine (part_any w).mono ?_
  rintro e w1 ⟨A1, rfl, f1⟩
  have F1 := Lib.hid f1
  clear f1
  go_wp2_with fail
  refine (mput_part w1 A1 2 F1.out.1.reads).mono ?_
  rintro e w2 ⟨Aa, ca, rfl, f2⟩
  have F2 := Lib.hid f2
  have C2 := Lib.hid (F1.out.2.2.trans f2.2.2)
  clear f2 F1
  go_wp2_with fail
  refine (mput_got w2).mono ?_
  rintro e w3 ⟨Ab, cb, rfl, f3⟩
  have F3 := Lib.hid f3
  have F2 := Lib.hid (F2.out.past f3.2.2)
  have C3 := Lib.hid (C2.out.trans f3.2.2)
  clear f3 C2
  go_wp2_with fail
  refine (pput_five w3).mono ?_
  rintro e w4 ⟨Ac, cc, rfl, f4⟩
  have F4 := Lib.hid f4
  have F2 := Lib.hid (F2.out.past f4.2.2)
  have F3 := Lib.hid (F3.out.past f4.2.2)
  have C4 := Lib.hid (C3.out.trans f4.2.2)
  clear f4 C3
  go_wp2_with fail
  refine (pget_five w4 Ac cc F4.out.1).mono ?_
  rintro e w5 ⟨Ad, cd, rfl, c5⟩
  have F2 := Lib.hid (F2.out.past c5)
  have F3 := Lib.hid (F3.out.past c5)
  have C5 := Lib.hid (C4.out.trans c5)
  clear c5 C4 F4
  obtain ⟨w6, hw6⟩ : ∃ w6 : World, w6 = (w5.alloc (.cells #[.int .i64 5, .int .i64 0, .int .i64 0, .int .i64 0, .slice Ad 0 cd] 24)).alloc (.cells #[.int .i64 0, .int .i64 0] 32) := ⟨_, rfl⟩
  have c6 : Chg [] w5 w6 := hw6 ▸ ((Chg.refl [] w5).alloc _).alloc _
  have b0 : w6.heap[w5.heap.size]? = some (.cells #[.int .i64 5, .int .i64 0, .int .i64 0, .int .i64 0, .slice Ad 0 cd] 24 (0, 0)) := hw6 ▸ ((Chg.refl [] _).alloc _).at_ (heap_alloc_new w5 _) (by simp)
  have b1 : w6.heap[w5.heap.size + 1]? = some (.cells #[.int .i64 0, .int .i64 0] 32 (0, 0)) := hw6 ▸ heap_alloc_two w5 _ _
  have B0 := Lib.hid b0
  have B1 := Lib.hid b1
  have F2 := Lib.hid (F2.out.past c6)
  have F3 := Lib.hid (F3.out.past c6)
  have C6 := Lib.hid (C5.out.trans c6)
  have W6 := Lib.hid hw6
  clear hw6 c6 b0 b1 C5
  go_upto_region 5 with fail
  rw [← W6.out]
  generalize w5.heap.size + 1 = s1 at *
  generalize w5.heap.size = s0 at *
  go_wp2_with fail
  refine (same_yes _ Aa _ 12 12 ca 12 [1, 1, 1, 5, 1, 3, 1, 1, 1, 2, 7, 8] [1, 1, 1, 5, 1, 3, 1, 1, 1, 2, 7, 8] ((F2.out.past ((Chg.refl [] w6).alloc _)).1.reads) (Bs.fill [1, 1, 1, 5, 1, 3, 1, 1, 1, 2, 7, 8] (heap_alloc_new w6 (.cells #[.int .u8 1, .int .u8 1, .int .u8 1, .int .u8 5, .int .u8 1, .int .u8 3, .int .u8 1, .int .u8 1, .int .u8 1, .int .u8 2, .int .u8 7, .int .u8 8] 5)) (by simp [bv]) (by simp)) (by simp)).mono ?_
  rintro e w7 ⟨rfl, rfl⟩
  have c7 := (Chg.refl [] w6).alloc (.cells #[.int .u8 1, .int .u8 1, .int .u8 1, .int .u8 5, .int .u8 1, .int .u8 3, .int .u8 1, .int .u8 1, .int .u8 1, .int .u8 2, .int .u8 7, .int .u8 8] 5)
  have F3 := Lib.hid (F3.out.past c7)
  have C7 := Lib.hid (C6.out.trans c7)
  have B0 := Lib.hid (c7.at_ B0.out (by simp))
  have B1 := Lib.hid (c7.at_ B1.out (by simp))
  clear c7 C6 F2
  generalize w6.alloc (.cells #[.int .u8 1, .int .u8 1, .int .u8 1, .int .u8 5, .int .u8 1, .int .u8 3, .int .u8 1, .int .u8 1, .int .u8 1, .int .u8 2, .int .u8 7, .int .u8 8] 5) = w7 at *
  go_wp2_with fail
  refine (same_yes _ Ab _ 4 4 cb 4 [1, 3, 1, 5] [1, 3, 1, 5] ((F3.out.past ((Chg.refl [] w7).alloc _)).1.reads) (Bs.fill [1, 3, 1, 5] (heap_alloc_new w7 (.cells #[.int .u8 1, .int .u8 3, .int .u8 1, .int .u8 5] 5)) (by simp [bv]) (by simp)) (by simp)).mono ?_
  rintro e w8 ⟨rfl, rfl⟩
  have c8 := (Chg.refl [] w7).alloc (.cells #[.int .u8 1, .int .u8 3, .int .u8 1, .int .u8 5] 5)
  have C8 := Lib.hid (C7.out.trans c8)
  have q0 := c8.at_ B0.out (by simp)
  have q1 := c8.at_ B1.out (by simp)
  have z0 := cell_of q0 0
  have z4 := cell_of q0 4
  have z5 := cell_of q1 0
  simp only [List.getElem?_toArray, List.getElem?_cons_succ, List.getElem?_cons_zero] at z0 z4 z5
  clear c8 C7 F3 q0 q1
  generalize w7.alloc (.cells #[.int .u8 1, .int .u8 3, .int .u8 1, .int .u8 5] 5) = w8 at *
  go_upto_region 6 with fail
  go_wp2_with fail
  go_ret
  exact ⟨rfl, C8.out⟩
end Go.Proofs.Ytelbahfmkpncaaa
