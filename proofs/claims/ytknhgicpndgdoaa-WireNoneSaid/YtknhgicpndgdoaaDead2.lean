/- write, to a writer that is none. -/
import Derived.Test.YtknhgicpndgdoaaDead
import Derived.Test.YtknhgicpndgdoaaActs
namespace Go.Proofs.Ytknhgicpndgdoaa
open Go.RowKit

set_option maxHeartbeats 400000 in
theorem write_dead (w : World) (v : Value) (kind n : Int) (s : ByteArray) (B : Option Addr) (m d : Nat) (ys : List UInt8) (h : DeadW w v) (hm : m ≤ 140737488351232) (hr : Bs w B m ys) :
    Calls Try.prog 12 #[v, .agg #[.int .i64 kind, .int .i64 n, .string s, .slice B m d]] w fun r w' => r = .returned (.bool true) ∧ Chg [] w w' := by
  have hc0 := (Chg.refl [] w).alloc (.cells #[.int .i64 kind, .int .i64 n, .string s, .slice B m d] 34)
  have h' := h.chg hc0 (by simp)
  have hr' := hr.chg hc0 (by simp)
  have HC0 := Lib.hid hc0
  by_cases k0 : kind = 0
  · subst k0
    clear h hr hc0 hr'
    go_enter Try.func12, Try.ntmps12
    go_wp2_with (go_at_call 37; refine (wnum_dead _ v n h').mono ?_; rintro r w1 ⟨rfl, rfl⟩)
    go_ret
    exact ⟨rfl, HC0.out⟩
  by_cases k1 : kind = 1
  · subst k1
    clear h hr hc0 hr'
    go_enter Try.func12, Try.ntmps12
    go_wp2_with (go_at_call 38; refine (wtext_dead _ v s h').mono ?_; rintro r w1 ⟨rfl, rfl⟩)
    go_ret
    exact ⟨rfl, HC0.out⟩
  have e0 : (kind == 0) = false := by simpa using k0
  have e1 : (kind == 1) = false := by simpa using k1
  have HR := Lib.hid hr
  have HL := Lib.hid hr.len
  have HD := Lib.hid h'
  clear h hr k0 k1 h' hc0
  go_enter Try.func12, Try.ntmps12
  go_wp2_with fail
  refine (lent_any _ B m d ys hr' hm).mono ?_
  rintro r w1 ⟨g2, rfl, hL, hg2, hc1⟩
  have box1 := hc1.at_ (heap_alloc_new w (.cells #[.int .i64 kind, .int .i64 n, .string s, .slice B m d] 34)) (by simp)
  have e3 := cell_of box1 3
  simp only [List.getElem?_toArray, List.getElem?_cons_succ, List.getElem?_cons_zero] at e3
  have HLt := Lib.hid hL
  have HD1 := Lib.hid (HD.out.chg hc1 (by simp))
  have HC1 := Lib.hid (HC0.out.trans hc1)
  simp at hg2
  have hgw : w.heap.size ≤ g2 := by omega
  clear hc1 box1 hL hr'
  go_wp2_with fail
  refine (wraw_dead w1 v (some ⟨g2, 0, none⟩) m _ HD1.out).mono ?_
  rintro r w2 ⟨rfl, rfl⟩
  go_wp2_with fail
  refine (kept_any _ g2 B m d ys HLt.out (HR.out.chg HC1.out (by simp)) hm).mono ?_
  rintro r w3 ⟨rfl, c3⟩
  have HL3 := Lib.hid (HLt.out.chg c3 (by simp))
  have HC3 := Lib.hid (HC1.out.trans c3)
  clear c3 e3
  go_wp2_with fail
  refine (over_lent _ g2 m ys HL3.out HL.out.symm hm).mono ?_
  rintro r w4 ⟨rfl, c4⟩
  have C4 := Lib.hid c4
  clear c4
  go_wp2
  go_ret
  refine ⟨rfl, HC3.out.trans' C4.out ?_⟩
  intro i hi
  simp at hi
  subst hi
  exact .inr hgw
end Go.Proofs.Ytknhgicpndgdoaa
