/- The statements' own functions over a writer: write, told, says. -/
import Derived.Test.YtknhgicpndgdoaaKit
namespace Go.Proofs.Ytknhgicpndgdoaa
open Go.RowKit

/-- What is written of an act. -/
def wAct (xs : List UInt8) (e : Int) (kind n : Int) (s ys : List UInt8) : List UInt8 × Int :=
  if kind = 0 then wNum xs e n else if kind = 1 then wRaw xs e s else wRaw xs e ys
theorem wAct_len {xs s ys : List UInt8} {e kind n : Int} (h : xs.length ≤ 1048576) : (wAct xs e kind n s ys).1.length ≤ 1048576 := by
  unfold wAct
  split
  · exact wNum_len h
  · split <;> exact wRaw_len h

set_option maxHeartbeats 400000 in
theorem write_num (w : World) (b g : Nat) (xs : List UInt8) (e n : Int) (s : ByteArray) (B : Option Addr) (m d : Nat) (h : Wrt w b g xs e) (hlen : xs.length ≤ 1048576) :
    Calls Try.prog 12 #[.pointer (some ⟨b, 0, none⟩), .agg #[.int .i64 0, .int .i64 n, .string s, .slice B m d]] w fun r w' => r = .returned (.bool true) ∧ Between w w' b g (wNum xs e n).1 (wNum xs e n).2 := by
  have h' := h.chg ((Chg.refl [] w).alloc (.cells #[.int .i64 0, .int .i64 n, .string s, .slice B m d] 34)) (by simp) (by simp)
  go_enter Try.func12, Try.ntmps12
  go_wp2_with (go_at_call 37; refine (wnum_any _ b g xs e n h' hlen).mono ?_; rintro r w1 ⟨rfl, hp⟩; have Hp := Lib.hid hp; clear hp)
  go_ret
  obtain ⟨g', q1, q2, q3⟩ := Hp.out
  refine ⟨rfl, g', q1, ((Chg.refl [b, g] w).alloc _).trans q2, ?_⟩
  rcases q3 with q3 | q3
  · exact .inl q3
  · simp at q3; exact .inr (by omega)
set_option maxHeartbeats 400000 in
theorem write_text (w : World) (b g : Nat) (xs : List UInt8) (e n : Int) (s : ByteArray) (B : Option Addr) (m d : Nat) (h : Wrt w b g xs e) (hlen : xs.length ≤ 1048576) (hs : s.size ≤ 140737488351232) :
    Calls Try.prog 12 #[.pointer (some ⟨b, 0, none⟩), .agg #[.int .i64 1, .int .i64 n, .string s, .slice B m d]] w fun r w' => r = .returned (.bool true) ∧ Between w w' b g (wRaw xs e s.data.toList).1 (wRaw xs e s.data.toList).2 := by
  have h' := h.chg ((Chg.refl [] w).alloc (.cells #[.int .i64 1, .int .i64 n, .string s, .slice B m d] 34)) (by simp) (by simp)
  go_enter Try.func12, Try.ntmps12
  go_wp2_with (go_at_call 38; refine (wtext_any _ b g xs e s h' hlen hs).mono ?_; rintro r w1 ⟨rfl, hp⟩; have Hp := Lib.hid hp; clear hp)
  go_ret
  obtain ⟨g', q1, q2, q3⟩ := Hp.out
  refine ⟨rfl, g', q1, ((Chg.refl [b, g] w).alloc _).trans q2, ?_⟩
  rcases q3 with q3 | q3
  · exact .inl q3
  · simp at q3; exact .inr (by omega)
set_option maxHeartbeats 400000 in
theorem write_raw (w : World) (b g : Nat) (xs : List UInt8) (e kind n : Int) (s : ByteArray) (B : Option Addr) (m d : Nat) (ys : List UInt8) (h : Wrt w b g xs e) (hlen : xs.length ≤ 1048576) (hm : m ≤ 140737488351232) (hr : Bs w B m ys) (hB : Apart B ys b g)
    (k0 : (kind == 0) = false) (k1 : (kind == 1) = false) :
    Calls Try.prog 12 #[.pointer (some ⟨b, 0, none⟩), .agg #[.int .i64 kind, .int .i64 n, .string s, .slice B m d]] w fun r w' => r = .returned (.bool true) ∧ Between w w' b g (wRaw xs e ys).1 (wRaw xs e ys).2 := by
  have hlt := h.lt
  have hc0 := (Chg.refl [] w).alloc (.cells #[.int .i64 kind, .int .i64 n, .string s, .slice B m d] 34)
  have hl := hr.len
  have HB := Lib.hid hB
  have Hlt := Lib.hid hlt
  have HL := Lib.hid hl
  have HR := Lib.hid hr
  have H0 := Lib.hid h
  clear hB hlt hl hr h
  go_enter Try.func12, Try.ntmps12
  go_wp2_with fail
  refine (lent_any _ B m d ys (HR.out.chg hc0 (by simp)) hm).mono ?_
  rintro r w1 ⟨g2, rfl, hL, hg2, hc1⟩
  have box1 := hc1.at_ (heap_alloc_new w (.cells #[.int .i64 kind, .int .i64 n, .string s, .slice B m d] 34)) (by simp)
  have e3 := cell_of box1 3
  simp only [List.getElem?_toArray, List.getElem?_cons_succ, List.getElem?_cons_zero] at e3
  have Box1 := Lib.hid box1
  have h1 := H0.out.chg (hc0.trans hc1) (by simp) (by simp)
  have HC1 := Lib.hid (hc0.trans hc1)
  clear hc1 box1
  simp at hg2
  go_wp2_with fail
  refine (wraw_any _ b g xs e (some ⟨g2, 0, none⟩) m _ ys h1 hlen hm (by rw [← HL.out]; exact hL.reads) (.inr (by rintro a ⟨⟩; have := Hlt.out; simp; omega))).mono ?_
  rintro r w2 ⟨rfl, g1, p1, p2, p3⟩
  have hg1 : g1 ≠ g2 := by
    have h2 := Hlt.out
    have h3 := hL.reads
    have h4 := HC1.out.size
    obtain ⟨full, h5, _⟩ := hL
    have h6 := lt_of_heap h5
    rcases p3 with rfl | p3 <;> omega
  have box2 := p2.at_ Box1.out (by have := Hlt.out; simp; omega)
  have e4 := cell_of box2 3
  simp only [List.getElem?_toArray, List.getElem?_cons_succ, List.getElem?_cons_zero] at e4
  have hL2 := hL.chg p2 (by have := Hlt.out; simp; omega)
  have hr2 : Bs w2 B m ys := (HR.out.chg HC1.out (by simp)).past p2 HB.out
  have P2 := Lib.hid p2
  have P3 := Lib.hid p3
  have Hg1 := Lib.hid hg1
  clear p2 p3 box2 e3 hL hg1
  go_wp2_with fail
  refine (kept_any _ g2 B m d ys hL2 hr2 hm).mono ?_
  rintro r w3 ⟨rfl, c3⟩
  have hL3 := hL2.chg c3 (by simp)
  have P4 := Lib.hid (P2.out.trans (c3.mono (by simp)))
  have p5 := p1.chg c3 (by simp) (by simp)
  clear c3 e4 hL2 hr2
  go_wp2_with fail
  refine (over_lent _ g2 m ys hL3 HL.out.symm hm).mono ?_
  rintro r w4 ⟨rfl, c4⟩
  have C4 := Lib.hid c4
  clear c4
  go_wp2
  go_ret
  have hlt := Hlt.out
  refine ⟨rfl, g1, p5.chg C4.out (by simp; omega) (by simp; exact Hg1.out), ?_, ?_⟩
  · refine ((HC1.out.mono (S' := [b, g]) (by simp)).trans P4.out).trans' C4.out ?_
    intro i hi
    simp at hi
    subst hi
    right; omega
  · have := HC1.out.size
    rcases P3.out with h | h
    · exact .inl h
    · right; omega

/-- An act, written. -/
theorem write_any (w : World) (b g : Nat) (xs : List UInt8) (e kind n : Int) (s : ByteArray) (B : Option Addr) (m d : Nat) (ys : List UInt8) (h : Wrt w b g xs e) (hlen : xs.length ≤ 1048576) (hs : s.size ≤ 140737488351232) (hm : m ≤ 140737488351232) (hr : Bs w B m ys) (hB : Apart B ys b g) :
    Calls Try.prog 12 #[.pointer (some ⟨b, 0, none⟩), .agg #[.int .i64 kind, .int .i64 n, .string s, .slice B m d]] w fun r w' => r = .returned (.bool true) ∧ Between w w' b g (wAct xs e kind n s.data.toList ys).1 (wAct xs e kind n s.data.toList ys).2 := by
  unfold wAct
  by_cases k0 : kind = 0
  · subst k0; simp only [if_true]; exact write_num w b g xs e n s B m d h hlen
  · by_cases k1 : kind = 1
    · subst k1; simp only [if_neg k0, if_true]; exact write_text w b g xs e n s B m d h hlen hs
    · simp only [if_neg k0, if_neg k1]; exact write_raw w b g xs e kind n s B m d ys h hlen hm hr hB (by simpa using k0) (by simpa using k1)
end Go.Proofs.Ytknhgicpndgdoaa
