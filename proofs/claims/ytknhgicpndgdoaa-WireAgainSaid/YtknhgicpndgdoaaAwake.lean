/- says, and the examples that every statement asks first. -/
import Derived.Test.YtknhgicpndgdoaaLaw2
import Derived.Test.YtknhgicpndgdoaaRd3
namespace Go.Proofs.Ytknhgicpndgdoaa
open Go.RowKit

set_option maxHeartbeats 400000 in
theorem says_yes (w : World) (kind n : Int) (s : ByteArray) (B : Option Addr) (m d : Nat) (ys want : List UInt8) (W : Option Addr) (k c0 : Nat) (hs : s.size ≤ 140737488351232) (hm : m ≤ 140737488351232) (hr : Bs w B m ys) (hw : Bs w W k want)
    (hspec : wAct [] 0 kind n s.data.toList ys = (want, 0)) :
    Calls Try.prog 33 #[.agg #[.int .i64 kind, .int .i64 n, .string s, .slice B m d], .slice W k c0] w fun r w' => r = .returned (.bool true) ∧ Chg [] w w' := by
  have hc : Chg [] w ((w.alloc (.cells #[.int .i64 kind, .int .i64 n, .string s, .slice B m d] 34)).alloc (.cells #[.int .i64 kind, .int .i64 n, .string s, .slice B m d] 34)) := ((Chg.refl [] w).alloc _).alloc _
  have ht := told_any _ (w.heap.size + 1) kind n s B m d ys (heap_alloc_two w _ _) hs hm (hr.chg hc (by simp))
  rw [hspec] at ht
  have hw1 := hw.chg hc (by simp)
  have HT := Lib.hid ht
  have HC := Lib.hid hc
  clear ht hspec hr hc
  go_enter Try.func33, Try.ntmps33
  go_wp2_with (first
    | (go_at_call 32; refine HT.out.mono ?_; rintro r w1 ⟨A, c, rfl, f1, f2, f3⟩; have F2 := Lib.hid f2; clear f2; have hw2 := hw1.chg f3 (by simp))
    | (go_at_call 16; refine (same_yes _ _ _ _ _ _ _ want want f1.reads hw2 rfl).mono ?_; rintro r w2 ⟨rfl, rfl⟩))
  go_ret
  exact ⟨rfl, HC.out.trans f3⟩

/-- Any few bytes, written out in a new block. -/
theorem Bs.lit (w : World) (C : Array Value) (xs : List UInt8) (h : C.toList = xs.map bv) : Bs (w.alloc (.cells C 5)) (some ⟨w.heap.size, 0, none⟩) xs.length xs :=
  ⟨rfl, fun j u hj => ⟨_, rfl, by
    rw [add_zero_lit, cell_of (heap_alloc_new w (.cells C 5)) j, ← Array.getElem?_toList, h, List.getElem?_map, hj]; rfl⟩⟩

set_option maxHeartbeats 1000000 in
theorem awake_yes (w : World) : Calls Try.prog 11 #[] w fun r w' => r = .returned (.bool true) ∧ Chg [] w w' := by
  go_enter Try.func11, Try.ntmps11
  go_wp2_with fail
  have hlit := Bs.lit w #[.int .u8 2, .int .u8 1, .int .u8 0, .int .u8 1, .int .u8 2, .int .u8 97, .int .u8 98] [2, 1, 0, 1, 2, 97, 98] rfl
  refine (open_any _ _ _ _ _ hlit (by decide)).mono ?_
  rintro r w1 ⟨b, g, rfl, hR, hc, hb, hg⟩
  have C1 := Lib.hid hc
  clear hc
  simp at hb hg
  have C1' := Lib.hid (((Chg.refl [] w).alloc _).trans C1.out)
  go_wp2_with fail
  refine (says_yes _ 0 0 _ none 0 0 [] [0] _ _ _ (by decide) (by decide) (Bs.nil _ _) (Bs.lit w1 _ [0] rfl) (by decide +kernel)).mono ?_
  rintro r w2 ⟨rfl, c2⟩
  have hR2 := (hR.chg ((Chg.refl [] w1).alloc _) (by simp) (by simp)).chg c2 (by simp) (by simp)
  have C2 := Lib.hid ((C1'.out.alloc _).trans c2)
  clear c2 hR
  go_wp2_with fail
  refine (says_yes _ 0 255 _ none 0 0 [] [1, 255] _ _ _ (by decide) (by decide) (Bs.nil _ _) (Bs.lit w2 _ [1, 255] rfl) (by decide +kernel)).mono ?_
  rintro r w3 ⟨rfl, c3⟩
  have hR3 := (hR2.chg ((Chg.refl [] w2).alloc _) (by simp) (by simp)).chg c3 (by simp) (by simp)
  have C3 := Lib.hid ((C2.out.alloc _).trans c3)
  clear c3 hR2
  go_wp2_with fail
  refine (says_yes _ 1 0 _ none 0 0 [] [1, 2, 97, 98] _ _ _ (by decide) (by decide) (Bs.nil _ _) (Bs.lit w3 _ [1, 2, 97, 98] rfl) (by decide +kernel)).mono ?_
  rintro r w4 ⟨rfl, c4⟩
  have hR4 := (hR3.chg ((Chg.refl [] w3).alloc _) (by simp) (by simp)).chg c4 (by simp) (by simp)
  have C4 := Lib.hid ((C3.out.alloc _).trans c4)
  clear c4 hR3
  go_wp2_with fail
  have e1 : rNum [2, 1, 0, 1, 2, 97, 98] 0 0 0 0 999 = (256, 3, 0, 0) := by decide +kernel
  have e2 : rRaw [2, 1, 0, 1, 2, 97, 98] 3 0 0 3 = ([97, 98], 7, 0, 0) := by decide +kernel
  have n1 := rnum_any w4 b g _ 0 0 0 0 999 hR4 (by decide) (by decide)
  rw [e1] at n1
  refine n1.mono ?_
  rintro r w5 ⟨rfl, hR5, c5⟩
  have C5 := Lib.hid c5
  clear c5 n1 hR4
  go_wp2_with fail
  have n2 := rtext_any w5 b g _ 3 0 0 3 hR5 (by decide) (by decide)
  rw [e2] at n2
  refine n2.mono ?_
  rintro r w6 ⟨rfl, hR6, c6⟩
  have C6 := Lib.hid c6
  clear c6 n2 hR5
  go_wp2_with fail
  refine (rend_done w6 b g _ 7 0 0 hR6 (by intro _; rfl) (by decide)).mono ?_
  rintro r w7 ⟨rfl, c7⟩
  have hR7 := hR6.chg c7 (by simp) (by simp)
  have C7 := Lib.hid c7
  clear c7 hR6
  go_wp2_with fail
  refine (rat_any w7 b g _ 7 0 0 hR7).mono ?_
  rintro r w8 ⟨rfl, rfl⟩
  go_wp2
  go_ret
  refine ⟨rfl, ((C4.out.trans' C5.out ?_).trans' C6.out ?_).trans C7.out⟩
  all_goals
    intro i hi
    simp at hi
    subst hi
    right; omega
end Go.Proofs.Ytknhgicpndgdoaa
