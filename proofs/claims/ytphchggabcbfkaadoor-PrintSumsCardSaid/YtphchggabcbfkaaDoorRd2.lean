/- The reader's number, whatever stands there; Num, Text and Raw. -/
import Derived.Test.YtphchggabcbfkaaDoorNm3
namespace Go.Proofs.YtphchggabcbfkaaDoor
open Go.RowKit

/-- What is read at a place: a fault and where, or a number and where it ends. -/
def numAt (xs : List UInt8) (p : Nat) (low high : Int) : Except (Nat × Nat) (Nat × Nat) :=
  if p = xs.length then .error (4, xs.length)
  else if 8 < bt xs p then .error (2, p)
  else if xs.length - (p + 1) < bt xs p then .error (4, xs.length)
  else if 0 < bt xs p ∧ bt xs (p + 1) = 0 then .error (2, p)
  else if 4611686018427387903 < dv xs p (bt xs p) ∨ (dv xs p (bt xs p) : Int) < low ∨ high < (dv xs p (bt xs p) : Int) then .error (5, p)
  else .ok (dv xs p (bt xs p), p + 1 + bt xs p)

theorem numAt_ok {xs : List UInt8} {p : Nat} {low high : Int} {v q : Nat} (h : numAt xs p low high = .ok (v, q)) (hp : p ≤ xs.length) : q ≤ xs.length ∧ p < q ∧ v ≤ 4611686018427387903 ∧ low ≤ v ∧ v ≤ high := by
  unfold numAt at h
  repeat (split at h; · cases h)
  cases h
  omega

theorem numAt_err {xs : List UInt8} {p : Nat} {low high : Int} {f q : Nat} (h : numAt xs p low high = .error (f, q)) : f ≠ 0 := by
  unfold numAt at h
  repeat (split at h; · (cases h; decide))
  cases h

/-- What a reader is behind a number that is asked for: its place, its fault. -/
def rNum (xs : List UInt8) (p : Nat) (fe fa : Int) (low high : Int) : Int × Nat × Int × Int :=
  if fe ≠ 0 then (0, p, fe, fa) else match numAt xs p low high with
    | .error (f, q) => (0, p, (f : Int), (q : Int))
    | .ok (v, q) => ((v : Int), q, 0, fa)

end Go.Proofs.YtphchggabcbfkaaDoor
