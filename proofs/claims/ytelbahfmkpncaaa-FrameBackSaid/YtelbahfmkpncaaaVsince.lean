/- The document's writer and reader, made since a world w. -/
import Derived.Test.YtelbahfmkpncaaaSince
import Derived.Test.YtelbahfmkpncaaaVw3
import Derived.Test.YtelbahfmkpncaaaUw
namespace Go.Proofs.Ytelbahfmkpncaaa
open Go.RowKit

/-- The document's writer, made since w. -/
def Vs (w w' : World) (b : Nat) (xs : List UInt8) (e : Int) : Prop := ∃ g, VWr w' b g xs e ∧ w.heap.size ≤ b ∧ w.heap.size ≤ g ∧ Chg [] w w'
theorem Vs.chg {w w' : World} {b : Nat} {xs : List UInt8} {e : Int} (h : Vs w w' b xs e) : Chg [] w w' := by obtain ⟨_, _, _, _, h⟩ := h; exact h
theorem Vs.past {w w1 w2 : World} {b : Nat} {xs : List UInt8} {e : Int} (h : Vs w w1 b xs e) (hc : Chg [] w1 w2) : Vs w w2 b xs e := by
  obtain ⟨g, h1, h2, h3, h4⟩ := h
  exact ⟨g, h1.chg hc (by simp) (by simp), h2, h3, h4.trans hc⟩
theorem vs_between {w w1 w2 : World} {b g : Nat} {xs : List UInt8} {e : Int} (h2 : w.heap.size ≤ b) (h3 : w.heap.size ≤ g) (h4 : Chg [] w w1) (h : VBetween w1 w2 b g xs e) : Vs w w2 b xs e := by
  obtain ⟨g', q1, q2, q3⟩ := h
  have := h4.size
  refine ⟨g', q1, h2, by omega, h4.both q2 ?_⟩
  intro i hi
  simp at hi
  omega
/-- A writer in a new block. -/
theorem vs_new (w w1 : World) (hc : Chg [] w w1) : Vs w (w1.alloc (.cells #[.slice none 0 0, .int .i64 0] 60)) w1.heap.size [] 0 :=
  ⟨w1.heap.size, ⟨none, 0, heap_alloc_new w1 _, OwnB.none_ _, .inl ⟨rfl, rfl⟩⟩, hc.size, hc.size, hc.alloc _⟩
theorem vs_num (w w1 : World) (b : Nat) (xs : List UInt8) (e x : Int) (h : Vs w w1 b xs e) (hlen : xs.length ≤ 1048576) (hx : -9223372036854775808 ≤ x) (hx2 : x ≤ 9223372036854775807) :
    Calls Try.prog 37 #[.pointer (some ⟨b, 0, none⟩), .int .i64 x] w1 fun r w' => r = .returned (.tuple #[]) ∧ Vs w w' b (wNum xs e x).1 (wNum xs e x).2 := by
  obtain ⟨g, h1, h2, h3, h4⟩ := h
  exact (vnum_any w1 b g xs e x h1 hlen hx hx2).mono fun _ _ ⟨q1, q2⟩ => ⟨q1, vs_between h2 h3 h4 q2⟩
theorem vs_raw (w w1 : World) (b : Nat) (xs : List UInt8) (e : Int) (B : Option Addr) (m d : Nat) (ys : List UInt8) (h : Vs w w1 b xs e) (hlen : xs.length ≤ 1048576) (hm : m ≤ 140737488351232) (hr : Bs w B m ys) :
    Calls Try.prog 38 #[.pointer (some ⟨b, 0, none⟩), .slice B m d] w1 fun r w' => r = .returned (.tuple #[]) ∧ Vs w w' b (wRaw xs e ys).1 (wRaw xs e ys).2 := by
  obtain ⟨g, h1, h2, h3, h4⟩ := h
  exact (vraw_any w1 b g xs e B m d ys h1 hlen hm (hr.chg h4 (by simp))).mono fun _ _ ⟨q1, q2⟩ => ⟨q1, vs_between h2 h3 h4 q2⟩
theorem vs_out (w w1 : World) (b : Nat) (xs : List UInt8) (e : Int) (h : Vs w w1 b xs e) (hlen : xs.length ≤ 1048576) :
    Calls Try.prog 39 #[.pointer (some ⟨b, 0, none⟩)] w1 fun r w' => ∃ A c, r = .returned (.tuple #[.slice A (outs xs e).length c, .int .i64 e]) ∧ Fresh w w' A c (outs xs e) := by
  obtain ⟨g, h1, h2, h3, h4⟩ := h
  exact (vout_any w1 b g xs e h1 hlen).mono fun _ _ ⟨A, c, q1, q2⟩ => ⟨A, c, q1, q2.since h4⟩
/-- The document's reader of bytes that w has, made since w. -/
def Us (w w' : World) (v : Nat) (A : Option Addr) (c : Nat) (xs : List UInt8) (p : Nat) (fe fa : Int) : Prop := URdr w' v A c xs p fe fa ∧ w.heap.size ≤ v ∧ Chg [] w w' ∧ Bs w A xs.length xs ∧ p ≤ xs.length ∧ xs.length ≤ 140737488351232
theorem Us.chg {w w' : World} {v : Nat} {A : Option Addr} {c : Nat} {xs : List UInt8} {p : Nat} {fe fa : Int} (h : Us w w' v A c xs p fe fa) : Chg [] w w' := h.2.2.1
theorem Us.past {w w1 w2 : World} {v : Nat} {A : Option Addr} {c : Nat} {xs : List UInt8} {p : Nat} {fe fa : Int} (h : Us w w1 v A c xs p fe fa) (hc : Chg [] w1 w2) : Us w w2 v A c xs p fe fa :=
  ⟨h.1.chg hc (by simp) (.inr (by simp)), h.2.1, h.2.2.1.trans hc, h.2.2.2⟩
theorem us_open (w w1 : World) (A : Option Addr) (c : Nat) (xs : List UInt8) (hc : Chg [] w w1) (h : Bs w A xs.length xs) (hc1 : xs.length ≤ c) (hc2 : c ≤ 9223372036854775807) (hm : xs.length ≤ 140737488351232) :
    Calls Try.prog 46 #[.slice A xs.length c] w1 fun r w' => ∃ v, r = .returned (.pointer (some ⟨v, 0, none⟩)) ∧ Us w w' v A c xs 0 0 0 :=
  (vopen_any w1 A c xs (h.chg hc (by simp)) hc1 hc2).mono fun _ _ hh => by
    have hs := hc.size
    first
      | (obtain ⟨v, h1, h2, h3, h4⟩ := hh; exact ⟨v, h1, h2, by omega, hc.trans h3, h, by omega, hm⟩)
      | (obtain ⟨h1, h2, h3⟩ := hh; exact ⟨_, h1, h2, hs, hc.trans h3, h, by omega, hm⟩)
theorem us_num (w w1 : World) (v : Nat) (A : Option Addr) (c : Nat) (xs : List UInt8) (p : Nat) (fe fa low high : Int) (h : Us w w1 v A c xs p fe fa) :
    Calls Try.prog 47 #[.pointer (some ⟨v, 0, none⟩), .int .i64 low, .int .i64 high] w1 fun r w' => r = .returned (.int .i64 (rNum xs p fe fa low high).1) ∧ Us w w' v A c xs (rNum xs p fe fa low high).2.1 (rNum xs p fe fa low high).2.2.1 (rNum xs p fe fa low high).2.2.2 ∧ Chg [v] w1 w' := by
  obtain ⟨h1, h2, h3, h4, h5, h6⟩ := h
  exact (unum_any w1 v A c xs p fe fa low high h1 h5 h6).mono fun _ _ ⟨q1, q2, q3⟩ => ⟨q1, ⟨q2, h2, h3.both q3 (by simpa using h2), h4, rNum_le h5, h6⟩, q3⟩
theorem us_raw (w w1 : World) (v : Nat) (A : Option Addr) (c : Nat) (xs : List UInt8) (p : Nat) (fe fa most : Int) (h : Us w w1 v A c xs p fe fa) :
    Calls Try.prog 48 #[.pointer (some ⟨v, 0, none⟩), .int .i64 most] w1 fun r w' => ∃ A' c', r = .returned (.slice A' (rRaw xs p fe fa most).1.length c') ∧ OwnB w' A' c' (rRaw xs p fe fa most).1 ∧ (∀ a, A' = some a → w1.heap.size ≤ a.block) ∧ Us w w' v A c xs (rRaw xs p fe fa most).2.1 (rRaw xs p fe fa most).2.2.1 (rRaw xs p fe fa most).2.2.2 ∧ Chg [v] w1 w' := by
  obtain ⟨h1, h2, h3, h4, h5, h6⟩ := h
  exact (uraw_any w1 v A c xs p fe fa most h1 h5 h6).mono fun _ _ ⟨A', c', q1, q2, q3, q4, q5⟩ => ⟨A', c', q1, q2, q3, ⟨q4, h2, h3.both q5 (by simpa using h2), h4, (rRaw_le h5).2, h6⟩, q5⟩
theorem us_end (w w1 : World) (v : Nat) (A : Option Addr) (c : Nat) (xs : List UInt8) (p : Nat) (fe fa : Int) (h : Us w w1 v A c xs p fe fa) :
    Calls Try.prog 49 #[.pointer (some ⟨v, 0, none⟩)] w1 fun r w' => r = .returned (.agg #[.int .i64 (endR xs p fe fa).1, .int .i64 (endR xs p fe fa).2]) ∧ Chg [] w1 w' :=
  uend_any w1 v A c xs p fe fa h.1
end Go.Proofs.Ytelbahfmkpncaaa
