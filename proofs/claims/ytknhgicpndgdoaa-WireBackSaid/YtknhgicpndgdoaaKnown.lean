/- fails, and the walk of WireKnown. -/
import Derived.Test.YtknhgicpndgdoaaAwake
namespace Go.Proofs.Ytknhgicpndgdoaa
open Go.RowKit

set_option maxHeartbeats 400000 in
theorem fails_num (w : World) (B : Option Addr) (m d : Nat) (xs : List UInt8) (low high e q v : Int) (hr : Bs w B m xs) (hm : m ≤ 140737488351232) (hs : rNum xs 0 0 0 low high = (v, 0, e, q)) :
    Calls Try.prog 34 #[.slice B m d, .agg #[.int .i64 0, .int .i64 low, .int .i64 high], .int .i64 e, .int .i64 q] w fun r w' => r = .returned (.bool true) ∧ Chg [] w w' := by
  have hl := hr.len
  have hn := fun w1 b g (h : Rdr w1 b g xs 0 0 0) => rnum_any w1 b g xs 0 0 0 low high h (by omega) (by omega)
  rw [hs] at hn
  have HN := Lib.hid hn
  have HL := Lib.hid hl
  have h1 := hr.chg ((Chg.refl [] w).alloc (.cells #[.int .i64 0, .int .i64 low, .int .i64 high] 48)) (by simp)
  clear hn hl hs hr
  go_enter Try.func34, Try.ntmps34
  go_wp2_with fail
  refine (open_any _ B m d xs h1 hm).mono ?_
  rintro r w1 ⟨b, g, rfl, hR, hc, hb, hg⟩
  have k := hc.at_ (heap_alloc_new w (.cells #[.int .i64 0, .int .i64 low, .int .i64 high] 48)) (by simp)
  have k0 := cell_of k 0
  have k1 := cell_of k 1
  have k2 := cell_of k 2
  simp only [List.getElem?_toArray, List.getElem?_cons_succ, List.getElem?_cons_zero] at k0 k1 k2
  have C1 := Lib.hid (((Chg.refl [] w).alloc _).trans hc)
  simp at hb hg
  clear hc k
  go_wp2_with fail
  refine (HN.out w1 b g hR).mono ?_
  rintro r w2 ⟨rfl, hR2, c2⟩
  have C2 := Lib.hid c2
  clear c2
  go_wp2_with fail
  refine (rfault_any w2 b g xs _ _ _ hR2).mono ?_
  rintro r w3 ⟨rfl, c3⟩
  have hR3 := hR2.chg c3 (by simp) (by simp)
  have C3 := Lib.hid c3
  clear c3
  go_wp2_with fail
  refine (rat_any w3 b g xs _ _ _ hR3).mono ?_
  rintro r w4 ⟨rfl, rfl⟩
  go_wp2
  go_ret
  refine ⟨rfl, (C1.out.trans' C2.out ?_).trans C3.out⟩
  intro i hi
  simp at hi
  subst hi
  right; omega
set_option maxHeartbeats 400000 in
theorem fails_text (w : World) (B : Option Addr) (m d : Nat) (xs : List UInt8) (low high e q : Int) (zs : List UInt8) (hr : Bs w B m xs) (hm : m ≤ 140737488351232) (hs : rRaw xs 0 0 0 high = (zs, 0, e, q)) :
    Calls Try.prog 34 #[.slice B m d, .agg #[.int .i64 1, .int .i64 low, .int .i64 high], .int .i64 e, .int .i64 q] w fun r w' => r = .returned (.bool true) ∧ Chg [] w w' := by
  have hl := hr.len
  have hn := fun w1 b g (h : Rdr w1 b g xs 0 0 0) => rtext_any w1 b g xs 0 0 0 high h (by omega) (by omega)
  rw [hs] at hn
  have HN := Lib.hid hn
  have HL := Lib.hid hl
  have h1 := hr.chg ((Chg.refl [] w).alloc (.cells #[.int .i64 1, .int .i64 low, .int .i64 high] 48)) (by simp)
  clear hn hl hs hr
  go_enter Try.func34, Try.ntmps34
  go_wp2_with fail
  refine (open_any _ B m d xs h1 hm).mono ?_
  rintro r w1 ⟨b, g, rfl, hR, hc, hb, hg⟩
  have k := hc.at_ (heap_alloc_new w (.cells #[.int .i64 1, .int .i64 low, .int .i64 high] 48)) (by simp)
  have k0 := cell_of k 0
  have k1 := cell_of k 1
  have k2 := cell_of k 2
  simp only [List.getElem?_toArray, List.getElem?_cons_succ, List.getElem?_cons_zero] at k0 k1 k2
  have C1 := Lib.hid (((Chg.refl [] w).alloc _).trans hc)
  simp at hb hg
  clear hc k
  go_wp2_with fail
  refine (HN.out w1 b g hR).mono ?_
  rintro r w2 ⟨rfl, hR2, c2⟩
  have C2 := Lib.hid c2
  clear c2
  go_wp2_with fail
  refine (rfault_any w2 b g xs _ _ _ hR2).mono ?_
  rintro r w3 ⟨rfl, c3⟩
  have hR3 := hR2.chg c3 (by simp) (by simp)
  have C3 := Lib.hid c3
  clear c3
  go_wp2_with fail
  refine (rat_any w3 b g xs _ _ _ hR3).mono ?_
  rintro r w4 ⟨rfl, rfl⟩
  go_wp2
  go_ret
  refine ⟨rfl, (C1.out.trans' C2.out ?_).trans C3.out⟩
  intro i hi
  simp at hi
  subst hi
  right; omega
/-- So many zeros. -/
def zeroRow (n : Nat) : Array Value := ((List.replicate n (0 : UInt8)).map bv).toArray
theorem run_mk (n : Nat) (h : n ≤ 281474976710656) (w : World) : (Instr.makeSlice 26 (.int .i64 (n : Int)) (.int .i64 (n : Int))).run Try.prog w = .ok (.slice (some ⟨w.heap.size, 0, none⟩) n n) (w.alloc (.cells (zeroRow n) 5)) := by
  obtain ⟨i0, hi, hz0, hz1, hz2⟩ := info_parts info8
  have hr := run_make (P := Try.prog) w 26 5 i0 (.int .u8 0) Try.underlying26 hi hz0 .i64 .i64 n n (by omega) (by omega) (by rw [hz2]; omega) (by omega)
  rw [hr, hz1, Int.toNat_natCast, Nat.mul_one]
  have e : madeCells (Value.int .u8 0).cells n = zeroRow n := by
    apply Array.toList_inj.1
    show (madeCells #[.int .u8 0] n).toList = _
    rw [toList_madeCells_one]
    simp [zeroRow, bv]
  rw [e]
theorem Bs.zeros (w : World) (n : Nat) : Bs (w.alloc (.cells (zeroRow n) 5)) (some ⟨w.heap.size, 0, none⟩) n (List.replicate n 0) := by
  have := Bs.lit w (zeroRow n) (List.replicate n 0) rfl
  simpa using this

theorem wact_long (n : Nat) (h : 1048576 ≤ n) : wAct [] 0 2 0 [] (List.replicate n 0) = ([], 3) := by
  have : 1048576 < 1 + nb n + n := by omega
  simp [wAct, wRaw, this]

set_option maxHeartbeats 2000000 in
theorem known_yes (w : World) : Calls Try.prog 6 #[] w fun r w' => r = .returned (.bool true) ∧ Chg [] w w' := by
  have hmk : ∀ w, (Instr.makeSlice 26 (.int .i64 1048576) (.int .i64 1048576)).run Try.prog w = .ok (.slice (some ⟨w.heap.size, 0, none⟩) 1048576 1048576) (w.alloc (.cells (zeroRow 1048576) 5)) := run_mk 1048576 (by decide)
  go_enter Try.func6, Try.ntmps6
  go_wp2_with fail
  have t1 := told_any (w.alloc (.cells #[.int .i64 0, .int .i64 (-1), .string ⟨#[]⟩, .slice none 0 0] 34)) w.heap.size 0 (-1) ⟨#[]⟩ none 0 0 [] (heap_alloc_new w _) (by decide) (by decide) (Bs.nil _ _)
  rw [show wAct [] 0 0 (-1) (⟨#[]⟩ : ByteArray).data.toList [] = ([], 5) by decide +kernel] at t1
  refine t1.mono ?_
  rintro r w1 ⟨A1, c1, rfl, _, _, f1⟩
  have F1 := Lib.hid (((Chg.refl [] w).alloc _).trans f1)
  clear f1 t1
  go_wp2_with fail
  have t1 := told_any (w1.alloc (.cells #[.int .i64 0, .int .i64 4611686018427387904, .string ⟨#[]⟩, .slice none 0 0] 34)) w1.heap.size 0 4611686018427387904 ⟨#[]⟩ none 0 0 [] (heap_alloc_new w1 _) (by decide) (by decide) (Bs.nil _ _)
  rw [show wAct [] 0 0 4611686018427387904 (⟨#[]⟩ : ByteArray).data.toList [] = ([], 5) by decide +kernel] at t1
  refine t1.mono ?_
  rintro r w2 ⟨A2, c2, rfl, _, _, f2⟩
  have F2 := Lib.hid ((F1.out.alloc _).trans f2)
  clear f2 t1
  go_wp2_with fail
  have hz := Bs.zeros w2 1048576
  have hz1 := hz.chg ((Chg.refl [] _).alloc (.cells #[.int .i64 2, .int .i64 0, .string ⟨#[]⟩, .slice (some ⟨w2.heap.size, 0, none⟩) 1048576 1048576] 34)) (by simp)
  have t1 := told_any ((w2.alloc (.cells (zeroRow 1048576) 5)).alloc (.cells #[.int .i64 2, .int .i64 0, .string ⟨#[]⟩, .slice (some ⟨w2.heap.size, 0, none⟩) 1048576 1048576] 34)) (w2.heap.size + 1) 2 0 ⟨#[]⟩ (some ⟨w2.heap.size, 0, none⟩) 1048576 1048576 (List.replicate 1048576 0) (heap_alloc_two w2 _ _) (by decide) (by decide) hz1
  rw [show (⟨#[]⟩ : ByteArray).data.toList = [] from rfl, wact_long 1048576 (by omega)] at t1
  refine t1.mono ?_
  rintro r w3 ⟨A3, c3, rfl, _, _, f3⟩
  have F3 := Lib.hid (((F2.out.alloc _).alloc _).trans f3)
  clear f3 t1 hz hz1 hmk
  go_wp2_with fail
  refine (says_yes _ 0 256 _ none 0 0 [] [2, 1, 0] _ _ _ (by decide) (by decide) (Bs.nil _ _) (Bs.lit w3 _ [2, 1, 0] rfl) (by decide +kernel)).mono ?_
  rintro r w4 ⟨rfl, f4⟩
  have F4 := Lib.hid ((F3.out.alloc _).trans f4)
  clear f4
  go_wp2_with fail
  refine (fails_num _ _ _ _ [1] 0 9 4 1 0 (Bs.lit w4 _ [1] rfl) (by decide) (by decide +kernel : rNum [1] 0 0 0 0 9 = (0, 0, 4, 1))).mono ?_
  rintro r w5 ⟨rfl, f5⟩
  have F5 := Lib.hid ((F4.out.alloc _).trans f5)
  clear f5
  go_wp2_with fail
  refine (fails_num _ _ _ _ [9] 0 9 2 0 0 (Bs.lit w5 _ [9] rfl) (by decide) (by decide +kernel : rNum [9] 0 0 0 0 9 = (0, 0, 2, 0))).mono ?_
  rintro r w6 ⟨rfl, f6⟩
  have F6 := Lib.hid ((F5.out.alloc _).trans f6)
  clear f6
  go_wp2_with fail
  refine (fails_num _ _ _ _ [1, 0] 0 9 2 0 0 (Bs.lit w6 _ [1, 0] rfl) (by decide) (by decide +kernel : rNum [1, 0] 0 0 0 0 9 = (0, 0, 2, 0))).mono ?_
  rintro r w7 ⟨rfl, f7⟩
  have F7 := Lib.hid ((F6.out.alloc _).trans f7)
  clear f7
  go_wp2_with fail
  refine (fails_num _ _ _ _ [1, 5] 6 9 5 0 0 (Bs.lit w7 _ [1, 5] rfl) (by decide) (by decide +kernel : rNum [1, 5] 0 0 0 6 9 = (0, 0, 5, 0))).mono ?_
  rintro r w8 ⟨rfl, f8⟩
  have F8 := Lib.hid ((F7.out.alloc _).trans f8)
  clear f8
  go_wp2_with fail
  refine (awake_yes w8).mono ?_
  rintro r w9 ⟨rfl, f9⟩
  have F9 := Lib.hid (F8.out.trans f9)
  clear f9
  go_wp2_with fail
  refine (fails_text _ _ _ _ [1, 2, 97] 0 9 4 3 [] (Bs.lit w9 _ [1, 2, 97] rfl) (by decide) (by decide +kernel : rRaw [1, 2, 97] 0 0 0 9 = ([], 0, 4, 3))).mono ?_
  rintro r w10 ⟨rfl, f10⟩
  have F10 := Lib.hid ((F9.out.alloc _).trans f10)
  clear f10
  go_wp2_with fail
  refine (fails_text _ _ _ _ [1, 2, 97] 0 1 3 0 [] (Bs.lit w10 _ [1, 2, 97] rfl) (by decide) (by decide +kernel : rRaw [1, 2, 97] 0 0 0 1 = ([], 0, 3, 0))).mono ?_
  rintro r w11 ⟨rfl, f11⟩
  have F11 := Lib.hid ((F10.out.alloc _).trans f11)
  clear f11
  go_wp2
  go_ret
  exact ⟨rfl, F11.out⟩
end Go.Proofs.Ytknhgicpndgdoaa
