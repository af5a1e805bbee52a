/- A writer, a reader that were made since a world w, and all that was there is as it was: the calls in this form. -/
import Derived.Test.YtphchggabcbfkaaDoorRd3
namespace Go.Proofs.YtphchggabcbfkaaDoor
open Go.RowKit

theorem Chg.both {w w1 w2 : World} {S : List Nat} (h : Chg [] w w1) (k : Chg S w1 w2) (hs : ∀ i ∈ S, w.heap.size ≤ i) : Chg [] w w2 :=
  h.trans' k fun i hi => .inr (hs i hi)

theorem Fresh.since {w w1 w2 : World} {A : Option Addr} {c : Nat} {ys : List UInt8} (hc : Chg [] w w1) (h : Fresh w1 w2 A c ys) : Fresh w w2 A c ys :=
  ⟨h.1, fun a e => by have := h.2.1 a e; have := hc.size; omega, hc.trans h.2.2⟩
theorem Fresh.past {w w1 w2 : World} {A : Option Addr} {c : Nat} {ys : List UInt8} (h : Fresh w w1 A c ys) (hc : Chg [] w1 w2) : Fresh w w2 A c ys :=
  ⟨h.1.chg hc (by simp), h.2.1, h.2.2.trans hc⟩
theorem Fresh.none_ {w w1 : World} (hc : Chg [] w w1) : Fresh w w1 none 0 [] := ⟨OwnB.none_ _, by simp, hc⟩
/-- What the end tells. -/
def endR (xs : List UInt8) (p : Nat) (fe fa : Int) : Int × Int := if fe = 0 ∧ p < xs.length then (4, p) else (fe, fa)
end Go.Proofs.YtphchggabcbfkaaDoor
