/- The reader's Raw and Text, whatever stands there. -/
import Derived.Test.YtphchggabcbfkaaDoorPc
namespace Go.Proofs.YtphchggabcbfkaaDoor
open Go.RowKit

/-- What a reader tells, and what it is behind that, where bytes are asked for. -/
def rRaw (xs : List UInt8) (p : Nat) (fe fa most : Int) : List UInt8 × Nat × Int × Int :=
  if fe ≠ 0 then ([], p, fe, fa) else match numAt xs p 0 4611686018427387903 with
    | .error (f, q) => ([], p, (f : Int), (q : Int))
    | .ok (n, q) => if most < n then ([], p, 3, (p : Int)) else if (xs.length : Int) - q < n then ([], p, 4, (xs.length : Int)) else ((xs.drop q).take n, q + n, 0, fa)

theorem rRaw_le {xs : List UInt8} {p : Nat} {fe fa most : Int} (hp : p ≤ xs.length) : (rRaw xs p fe fa most).1.length ≤ xs.length ∧ (rRaw xs p fe fa most).2.1 ≤ xs.length := by
  unfold rRaw
  split
  · exact ⟨Nat.zero_le _, hp⟩
  · split
    · exact ⟨Nat.zero_le _, hp⟩
    · rename_i n q hn
      have := numAt_ok hn hp
      split
      · exact ⟨Nat.zero_le _, hp⟩
      · split
        · exact ⟨Nat.zero_le _, hp⟩
        · simp; omega
theorem rNum_le {xs : List UInt8} {p : Nat} {fe fa low high : Int} (hp : p ≤ xs.length) : (rNum xs p fe fa low high).2.1 ≤ xs.length := by
  unfold rNum
  split
  · exact hp
  · split
    · exact hp
    · rename_i n q hn
      exact (numAt_ok hn hp).1

end Go.Proofs.YtphchggabcbfkaaDoor
