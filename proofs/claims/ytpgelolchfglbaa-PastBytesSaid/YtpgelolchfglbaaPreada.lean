/- past.Read of all bytes. -/
import Derived.Test.YtpgelolchfglbaaPreadw
namespace Go.Proofs.Ytpgelolchfglbaa
open Go.RowKit Go.Lib
set_option linter.unusedSimpArgs false
set_option linter.unusedVariables false


/-- What bytes are read as: a past, what is wrong, and where. -/
def readS (ys : List UInt8) : List (Int × Int × Int) × (Int × Int) :=
  if ys.length < 2 then ([], (4, (ys.length : Int)))
  else if ys.length = 2 + 9 * numB (ys.take 2) then (if chkS (spansR ys (numB (ys.take 2))) = 0 then (spansR ys (numB (ys.take 2)), (0, 0)) else ([], (2, 0)))
  else ([], (4, if ys.length < 2 + 9 * numB (ys.take 2) then (ys.length : Int) else ((2 + 9 * numB (ys.take 2) : Nat) : Int)))
theorem readS_short {ys : List UInt8} (h : ys.length < 2) : readS ys = ([], (4, (ys.length : Int))) := if_pos h
theorem readS_odd {ys : List UInt8} (h : ¬ ys.length < 2) (h2 : ys.length ≠ 2 + 9 * numB (ys.take 2)) : readS ys = ([], (4, if ys.length < 2 + 9 * numB (ys.take 2) then (ys.length : Int) else ((2 + 9 * numB (ys.take 2) : Nat) : Int))) := by
  unfold readS
  rw [if_neg h, if_neg h2]
theorem readS_fine {ys : List UInt8} (h : ¬ ys.length < 2) (h2 : ys.length = 2 + 9 * numB (ys.take 2)) :
    (chkS (spansR ys (numB (ys.take 2))) = 0 ∧ readS ys = (spansR ys (numB (ys.take 2)), (0, 0))) ∨ (chkS (spansR ys (numB (ys.take 2))) = 2 ∧ readS ys = ([], (2, 0))) := by
  unfold readS
  rw [if_neg h, if_pos h2]
  by_cases hk : chkS (spansR ys (numB (ys.take 2))) = 0
  · rw [if_pos hk]; exact .inl ⟨hk, rfl⟩
  · rw [if_neg hk]; exact .inr ⟨chkS_odd hk, rfl⟩
theorem Bs.base {w : World} {A : Option Addr} {n : Nat} {ys : List UInt8} (h : Bs w A n ys) (hn : 0 < n) : ∃ g o, A = some ⟨g, o, none⟩ := by
  have hl := h.len
  obtain ⟨ad, rfl, hc⟩ := h.cells 0 _ (List.getElem?_eq_getElem (by omega))
  have hsp := World.cell?_spot hc
  obtain ⟨g, o, sp⟩ := ad
  have hsp : sp = none := by simpa [Addr.add] using hsp
  subst hsp
  exact ⟨g, o, rfl⟩

theorem paread_short (w : World) (A : Option Addr) (n c : Nat) (ys : List UInt8) (h : Bs w A n ys) (h2 : ys.length < 2) :
    Calls Try.prog 37 #[.slice A n c] w fun e w' => ∃ A' c', e = .returned (.tuple #[.slice A' (readS ys).1.length c', .agg #[.int .i64 (readS ys).2.1, .int .i64 (readS ys).2.2]]) ∧ OwnK spanTy w' A' c' (readS ys).1 ∧ (∀ a, A' = some a → w.heap.size ≤ a.block) ∧ Chg [] w w' := by
  rw [readS_short h2]
  have hl := h.len
  subst hl
  have h3 : (ys.length : Int) < 2 := by omega
  clear h h2
  go_enter Try.func37, Try.ntmps37
  go_wp2
  refine bodyPost_ret (v := .tuple #[.slice none 0 0, .agg #[.int .i64 4, .int .i64 ys.length]]) (by simp [results, Try.results37, go_sem]) rfl ?_
  exact ⟨none, 0, rfl, OwnK.none_ _, by simp, (Chg.refl _ _).alloc _⟩

set_option maxHeartbeats 2000000 in
set_option maxRecDepth 100000 in
theorem paread_odd (w : World) (g o n c : Nat) (ys : List UInt8) (h : Bs w (some ⟨g, o, none⟩) n ys) (hn : n ≤ 140737488351232) (hc : n ≤ c) (hc2 : c ≤ 9223372036854775807) (hs : ¬ ys.length < 2) (many : Nat) (hm : many = numB (ys.take 2)) (hl : ys.length ≠ 2 + 9 * many) (V : Int) (hV : (ys.length < 2 + 9 * many ∧ V = ys.length) ∨ (2 + 9 * many < ys.length ∧ V = ((2 + 9 * many : Nat) : Int))) :
    Calls Try.prog 37 #[.slice (some ⟨g, o, none⟩) n c] w fun e w' => ∃ A' c', e = .returned (.tuple #[.slice A' 0 c', .agg #[.int .i64 4, .int .i64 V]]) ∧ OwnK spanTy w' A' c' [] ∧ (∀ a, A' = some a → w.heap.size ≤ a.block) ∧ Chg [] w w' := by
  have hl0 := h.len
  subst hl0
  obtain ⟨w1, hw1, c1, b1⟩ := news1 w (.cells #[.int .i64 0, .int .i64 0] 47)
  have W1 := Lib.hid hw1
  have HX := Lib.hid (h.chg c1 (by simp))
  have C1 := Lib.hid c1
  have F1 := Lib.hid b1
  have h2 : (2 : Int) ≤ (ys.length : Int) := by omega
  have h3 : ¬ ((ys.length : Int) < 2) := by omega
  have h4 : (2 : Int) ≤ (c : Int) := by omega
  have hmk : many < 65536 := by
    have := numB_lt 2 (ys.take 2) (by rw [List.length_take]; omega)
    omega
  have hne : ((ys.length : Int) == 2 + 9 * (many : Int)) = false := by simp; omega
  have RD := Lib.hid (show Bs w1 (some ⟨g, o, none⟩) 2 (ys.take 2) from by have := HX.out.part_ 0 2 (by omega); simpa using this)
  clear hw1 c1 b1 h hs
  rcases hV with ⟨hv, rfl⟩ | ⟨hv, rfl⟩
  · have hlt : (ys.length : Int) < 2 + 9 * (many : Int) := by omega
    clear hv hl
    go_enter Try.func37, Try.ntmps37
    go_wp2_with fail
    rw [← W1.out]
    refine (panumber_any _ _ 2 _ (ys.take 2) RD.out (by rw [List.length_take]; omega)).mono ?_
    rintro e w2 ⟨rfl, hcc⟩
    rw [← hm]
    clear hm
    have C2 := Lib.hid (C1.out.trans hcc)
    have F2 := Lib.hid (hcc.at_ F1.out (by simp))
    clear hcc W1 C1 F1 HX RD
    generalize hs0 : w.heap.size = s0 at *
    have HS0 := Lib.hid (Nat.le_of_eq hs0)
    clear hs0
    have hb := F2.out
    have z0 := cell_of hb 0
    have z1 := cell_of hb 1
    have f0 := free_of hb 0
    have f1 := free_of hb 1
    simp only [List.getElem?_toArray, List.getElem?_cons_succ, List.getElem?_cons_zero] at z0 z1
    have e0 := heap_setCell_same _ s0 0 _ _ (.int .i64 4) hb
    have e1 := heap_setCell_same _ s0 1 _ _ (.int .i64 ys.length) e0
    have HE : Hid (((w2.setCell ⟨s0, 0, none⟩ (.int .i64 4)).setCell ⟨s0, 1, none⟩ (.int .i64 ys.length)).heap[s0]? = some (.cells #[.int .i64 4, .int .i64 ys.length] 47 (0, 0))) := Lib.hid (by simpa using e1)
    have CW := Lib.hid (Chg.put (Chg.put C2.out HS0.out 0 (.int .i64 4)) HS0.out 1 (.int .i64 ys.length))
    clear hb e0 e1
    go_wp2
    generalize (w2.setCell ⟨s0, 0, none⟩ (.int .i64 4)).setCell ⟨s0, 1, none⟩ (.int .i64 ys.length) = W at *
    clear z0 z1 f0 f1
    have z0 := cell_of HE.out 0
    have z1 := cell_of HE.out 1
    simp only [List.getElem?_toArray, List.getElem?_cons_succ, List.getElem?_cons_zero] at z0 z1
    refine bodyPost_ret (v := .tuple #[.slice none 0 0, .agg #[.int .i64 4, .int .i64 ys.length]]) (by simp [results, Try.results37, go_sem, z0, z1]) rfl ?_
    exact ⟨none, 0, rfl, OwnK.none_ _, by simp, CW.out⟩
  · have hlt : ¬ (ys.length : Int) < 2 + 9 * (many : Int) := by omega
    have hlt2 : 2 + 9 * (many : Int) < (ys.length : Int) := by omega
    have hlt3 : 2 + 9 * (many : Int) ≤ (ys.length : Int) := by omega
    clear hv hl
    go_enter Try.func37, Try.ntmps37
    go_wp2_with fail
    rw [← W1.out]
    refine (panumber_any _ _ 2 _ (ys.take 2) RD.out (by rw [List.length_take]; omega)).mono ?_
    rintro e w2 ⟨rfl, hcc⟩
    rw [← hm]
    clear hm
    have C2 := Lib.hid (C1.out.trans hcc)
    have F2 := Lib.hid (hcc.at_ F1.out (by simp))
    clear hcc W1 C1 F1 HX RD
    generalize hs0 : w.heap.size = s0 at *
    have HS0 := Lib.hid (Nat.le_of_eq hs0)
    clear hs0
    have hb := F2.out
    have z0 := cell_of hb 0
    have z1 := cell_of hb 1
    have f0 := free_of hb 0
    have f1 := free_of hb 1
    simp only [List.getElem?_toArray, List.getElem?_cons_succ, List.getElem?_cons_zero] at z0 z1
    have e0 := heap_setCell_same _ s0 0 _ _ (.int .i64 4) hb
    have e1 := heap_setCell_same _ s0 1 _ _ (.int .i64 (2 + 9 * (many : Int))) e0
    have HE : Hid (((w2.setCell ⟨s0, 0, none⟩ (.int .i64 4)).setCell ⟨s0, 1, none⟩ (.int .i64 (2 + 9 * (many : Int)))).heap[s0]? = some (.cells #[.int .i64 4, .int .i64 (2 + 9 * (many : Int))] 47 (0, 0))) := Lib.hid (by simpa using e1)
    have CW := Lib.hid (Chg.put (Chg.put C2.out HS0.out 0 (.int .i64 4)) HS0.out 1 (.int .i64 (2 + 9 * (many : Int))))
    clear hb e0 e1
    go_wp2
    generalize (w2.setCell ⟨s0, 0, none⟩ (.int .i64 4)).setCell ⟨s0, 1, none⟩ (.int .i64 (2 + 9 * (many : Int))) = W at *
    clear z0 z1 f0 f1
    have z0 := cell_of HE.out 0
    have z1 := cell_of HE.out 1
    simp only [List.getElem?_toArray, List.getElem?_cons_succ, List.getElem?_cons_zero] at z0 z1
    refine bodyPost_ret (v := .tuple #[.slice none 0 0, .agg #[.int .i64 4, .int .i64 (2 + 9 * (many : Int))]]) (by simp [results, Try.results37, go_sem, z0, z1]) rfl ?_
    exact ⟨none, 0, rfl, OwnK.none_ _, by simp, CW.out⟩

theorem paread_any (w : World) (A : Option Addr) (n c : Nat) (ys : List UInt8) (h : Bs w A n ys) (hn : n ≤ 140737488351232) (hc : n ≤ c) (hc2 : c ≤ 9223372036854775807) :
    Calls Try.prog 37 #[.slice A n c] w fun e w' => ∃ A' c', e = .returned (.tuple #[.slice A' (readS ys).1.length c', .agg #[.int .i64 (readS ys).2.1, .int .i64 (readS ys).2.2]]) ∧ OwnK spanTy w' A' c' (readS ys).1 ∧ (∀ a, A' = some a → w.heap.size ≤ a.block) ∧ Chg [] w w' := by
  have hl := h.len
  by_cases h2 : ys.length < 2
  · exact paread_short w A n c ys h h2
  obtain ⟨g, o, rfl⟩ := h.base (by omega)
  by_cases h3 : ys.length = 2 + 9 * numB (ys.take 2)
  · rcases readS_fine h2 h3 with ⟨hk, e⟩ | ⟨hk, e⟩ <;> rw [e]
    · exact paread_loop w g o n c ys h hn hc hc2 _ rfl h3 _ _ (.inl ⟨hk, rfl, rfl⟩)
    · exact paread_loop w g o n c ys h hn hc hc2 _ rfl h3 _ _ (.inr ⟨hk, rfl, rfl⟩)
  · rw [readS_odd h2 h3]
    refine paread_odd w g o n c ys h hn hc hc2 h2 _ rfl h3 _ ?_
    by_cases h4 : ys.length < 2 + 9 * numB (ys.take 2)
    · exact .inl ⟨h4, if_pos h4⟩
    · exact .inr ⟨by omega, if_neg h4⟩
end Go.Proofs.Ytpgelolchfglbaa
