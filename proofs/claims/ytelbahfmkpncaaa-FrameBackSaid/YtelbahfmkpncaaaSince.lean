/- A writer, a reader that were made since a world w, and all that was there is as it was: the calls in this form. -/
import Derived.Test.YtelbahfmkpncaaaRd3
namespace Go.Proofs.Ytelbahfmkpncaaa
open Go.RowKit

theorem Chg.both {w w1 w2 : World} {S : List Nat} (h : Chg [] w w1) (k : Chg S w1 w2) (hs : ∀ i ∈ S, w.heap.size ≤ i) : Chg [] w w2 :=
  h.trans' k fun i hi => .inr (hs i hi)

/-- A writer made since w. -/
def Ws (w w' : World) (b : Nat) (xs : List UInt8) (e : Int) : Prop := ∃ g, Wrt w' b g xs e ∧ w.heap.size ≤ b ∧ w.heap.size ≤ g ∧ Chg [] w w'
theorem Ws.chg {w w' : World} {b : Nat} {xs : List UInt8} {e : Int} (h : Ws w w' b xs e) : Chg [] w w' := by obtain ⟨_, _, _, _, h⟩ := h; exact h
theorem Ws.past {w w1 w2 : World} {b : Nat} {xs : List UInt8} {e : Int} (h : Ws w w1 b xs e) (hc : Chg [] w1 w2) : Ws w w2 b xs e := by
  obtain ⟨g, h1, h2, h3, h4⟩ := h
  exact ⟨g, h1.chg hc (by simp) (by simp), h2, h3, h4.trans hc⟩
theorem ws_between {w w1 w2 : World} {b g : Nat} {xs : List UInt8} {e : Int} (h2 : w.heap.size ≤ b) (h3 : w.heap.size ≤ g) (h4 : Chg [] w w1) (h : Between w1 w2 b g xs e) : Ws w w2 b xs e := by
  obtain ⟨g', q1, q2, q3⟩ := h
  have := h4.size
  refine ⟨g', q1, h2, by omega, h4.both q2 ?_⟩
  intro i hi
  simp at hi
  omega
theorem ws_new (w w1 : World) (hc : Chg [] w w1) : Calls Try.prog 32 #[] w1 fun r w' => ∃ b, r = .returned (.pointer (some ⟨b, 0, none⟩)) ∧ Ws w w' b [] 0 :=
  (new_any w1).mono fun _ _ ⟨h1, h2, h3⟩ => ⟨_, h1, _, h2, hc.size, hc.size, hc.trans h3⟩
theorem ws_num (w w1 : World) (b : Nat) (xs : List UInt8) (e x : Int) (h : Ws w w1 b xs e) (hlen : xs.length ≤ 1048576) :
    Calls Try.prog 33 #[.pointer (some ⟨b, 0, none⟩), .int .i64 x] w1 fun r w' => r = .returned (.tuple #[]) ∧ Ws w w' b (wNum xs e x).1 (wNum xs e x).2 := by
  obtain ⟨g, h1, h2, h3, h4⟩ := h
  exact (wnum_any w1 b g xs e x h1 hlen).mono fun _ _ ⟨q1, q2⟩ => ⟨q1, ws_between h2 h3 h4 q2⟩
theorem ws_raw (w w1 : World) (b : Nat) (xs : List UInt8) (e : Int) (B : Option Addr) (m d : Nat) (ys : List UInt8) (h : Ws w w1 b xs e) (hlen : xs.length ≤ 1048576) (hm : m ≤ 140737488351232) (hr : Bs w B m ys) :
    Calls Try.prog 34 #[.pointer (some ⟨b, 0, none⟩), .slice B m d] w1 fun r w' => r = .returned (.tuple #[]) ∧ Ws w w' b (wRaw xs e ys).1 (wRaw xs e ys).2 := by
  obtain ⟨g, h1, h2, h3, h4⟩ := h
  exact (wraw_any w1 b g xs e B m d ys h1 hlen hm (hr.chg h4 (by simp)) (hr.apart h2 h3)).mono fun _ _ ⟨q1, q2⟩ => ⟨q1, ws_between h2 h3 h4 q2⟩
theorem Fresh.since {w w1 w2 : World} {A : Option Addr} {c : Nat} {ys : List UInt8} (hc : Chg [] w w1) (h : Fresh w1 w2 A c ys) : Fresh w w2 A c ys :=
  ⟨h.1, fun a e => by have := h.2.1 a e; have := hc.size; omega, hc.trans h.2.2⟩
theorem Fresh.past {w w1 w2 : World} {A : Option Addr} {c : Nat} {ys : List UInt8} (h : Fresh w w1 A c ys) (hc : Chg [] w1 w2) : Fresh w w2 A c ys :=
  ⟨h.1.chg hc (by simp), h.2.1, h.2.2.trans hc⟩
theorem Fresh.none_ {w w1 : World} (hc : Chg [] w w1) : Fresh w w1 none 0 [] := ⟨OwnB.none_ _, by simp, hc⟩
theorem ws_out (w w1 : World) (b : Nat) (xs : List UInt8) (e : Int) (h : Ws w w1 b xs e) (hlen : xs.length ≤ 1048576) :
    Calls Try.prog 35 #[.pointer (some ⟨b, 0, none⟩)] w1 fun r w' => ∃ A c, r = .returned (.tuple #[.slice A (outs xs e).length c, .int .i64 e]) ∧ Fresh w w' A c (outs xs e) := by
  obtain ⟨g, h1, h2, h3, h4⟩ := h
  exact (wout_any w1 b g xs e h1 hlen).mono fun _ _ ⟨A, c, q1, q2⟩ => ⟨A, c, q1, q2.since h4⟩

/-- A reader made since w. -/
def Rs (w w' : World) (b : Nat) (xs : List UInt8) (p : Nat) (fe fa : Int) : Prop := ∃ g, Rdr w' b g xs p fe fa ∧ w.heap.size ≤ b ∧ w.heap.size ≤ g ∧ Chg [] w w' ∧ p ≤ xs.length ∧ xs.length ≤ 140737488351232
theorem Rs.chg {w w' : World} {b : Nat} {xs : List UInt8} {p : Nat} {fe fa : Int} (h : Rs w w' b xs p fe fa) : Chg [] w w' := by obtain ⟨_, _, _, _, h, _⟩ := h; exact h
theorem Rs.past {w w1 w2 : World} {b : Nat} {xs : List UInt8} {p : Nat} {fe fa : Int} (h : Rs w w1 b xs p fe fa) (hc : Chg [] w1 w2) : Rs w w2 b xs p fe fa := by
  obtain ⟨g, h1, h2, h3, h4, h5⟩ := h
  exact ⟨g, h1.chg hc (by simp) (by simp), h2, h3, h4.trans hc, h5⟩
theorem rs_open (w w1 : World) (B : Option Addr) (m d : Nat) (ys : List UInt8) (hc : Chg [] w w1) (hr : Bs w B m ys) (hm : m ≤ 140737488351232) :
    Calls Try.prog 42 #[.slice B m d] w1 fun r w' => ∃ b, r = .returned (.pointer (some ⟨b, 0, none⟩)) ∧ Rs w w' b ys 0 0 0 := by
  have hs := hc.size
  have hl := hr.len
  exact (open_any w1 B m d ys (hr.chg hc (by simp)) hm).mono fun _ _ ⟨b, g, h1, h2, h3, h4, h5⟩ => ⟨b, h1, g, h2, by omega, by omega, hc.trans h3, by omega, by omega⟩
theorem rs_num (w w1 : World) (b : Nat) (xs : List UInt8) (p : Nat) (fe fa low high : Int) (h : Rs w w1 b xs p fe fa) :
    Calls Try.prog 43 #[.pointer (some ⟨b, 0, none⟩), .int .i64 low, .int .i64 high] w1 fun r w' => r = .returned (.int .i64 (rNum xs p fe fa low high).1) ∧ Rs w w' b xs (rNum xs p fe fa low high).2.1 (rNum xs p fe fa low high).2.2.1 (rNum xs p fe fa low high).2.2.2 ∧ Chg [b] w1 w' := by
  obtain ⟨g, h1, h2, h3, h4, h5, h6⟩ := h
  exact (rnum_any w1 b g xs p fe fa low high h1 h5 h6).mono fun _ _ ⟨q1, q2, q3⟩ => ⟨q1, ⟨g, q2, h2, h3, h4.both q3 (by simpa using h2), rNum_le h5, h6⟩, q3⟩
theorem rs_raw (w w1 : World) (b : Nat) (xs : List UInt8) (p : Nat) (fe fa most : Int) (h : Rs w w1 b xs p fe fa) :
    Calls Try.prog 44 #[.pointer (some ⟨b, 0, none⟩), .int .i64 most] w1 fun r w' => ∃ A c, r = .returned (.slice A (rRaw xs p fe fa most).1.length c) ∧ OwnB w' A c (rRaw xs p fe fa most).1 ∧ (∀ a, A = some a → w1.heap.size ≤ a.block) ∧ Rs w w' b xs (rRaw xs p fe fa most).2.1 (rRaw xs p fe fa most).2.2.1 (rRaw xs p fe fa most).2.2.2 ∧ Chg [b] w1 w' := by
  obtain ⟨g, h1, h2, h3, h4, h5, h6⟩ := h
  exact (rraw_any w1 b g xs p fe fa most h1 h5 h6).mono fun _ _ ⟨A, c, q1, q2, q3, q4, q5⟩ => ⟨A, c, q1, q2, q3, ⟨g, q4, h2, h3, h4.both q5 (by simpa using h2), (rRaw_le h5).2, h6⟩, q5⟩
/-- What the end tells. -/
def endR (xs : List UInt8) (p : Nat) (fe fa : Int) : Int × Int := if fe = 0 ∧ p < xs.length then (4, p) else (fe, fa)
theorem rs_end (w w1 : World) (b : Nat) (xs : List UInt8) (p : Nat) (fe fa : Int) (h : Rs w w1 b xs p fe fa) :
    Calls Try.prog 45 #[.pointer (some ⟨b, 0, none⟩)] w1 fun r w' => r = .returned (.agg #[.int .i64 (endR xs p fe fa).1, .int .i64 (endR xs p fe fa).2]) ∧ Chg [] w1 w' := by
  obtain ⟨g, h1, h2, h3, h4, h5, h6⟩ := h
  unfold endR
  by_cases he : fe = 0 ∧ p < xs.length
  · rw [if_pos he]
    obtain ⟨rfl, hp⟩ := he
    exact rend_left w1 b g xs p fa h1 hp h6
  · rw [if_neg he]
    exact rend_done w1 b g xs p fe fa h1 (fun e => by omega) h6
end Go.Proofs.Ytelbahfmkpncaaa
