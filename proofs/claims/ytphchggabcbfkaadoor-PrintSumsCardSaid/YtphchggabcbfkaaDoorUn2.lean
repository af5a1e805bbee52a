/- The document's number, read: where digits follow, or none. -/
import Derived.Test.YtphchggabcbfkaaDoorUn
namespace Go.Proofs.YtphchggabcbfkaaDoor
open Go.RowKit

theorem dv_head (xs : List UInt8) (p : Nat) : ∀ k, p + 1 + (k + 1) ≤ xs.length → bt xs (p + 1) * 256 ^ k ≤ dv xs p (k + 1) ∧ dv xs p (k + 1) < (bt xs (p + 1) + 1) * 256 ^ k
  | 0, h => by
    have := dv_succ xs p 0 (by omega)
    rw [dv_zero, Nat.add_zero] at this
    rw [this, Nat.add_zero]
    omega
  | k + 1, h => by
    have ih := dv_head xs p k (by omega)
    have e := dv_succ xs p (k + 1) (by omega)
    have hb := bt_lt xs (p + 1 + (k + 1))
    rw [e, Nat.pow_succ, ← Nat.mul_assoc, ← Nat.mul_assoc]
    omega
theorem dv_big (xs : List UInt8) (p : Nat) (h : p + 1 + 8 ≤ xs.length) : 4611686018427387903 < dv xs p 8 ↔ 63 < bt xs (p + 1) := by
  have := dv_head xs p 7 h
  have e : 256 ^ 7 = 72057594037927936 := by decide
  rw [e, show (7 + 1 : Nat) = 8 from rfl] at this
  omega
theorem dv_small (xs : List UInt8) (p n : Nat) (h : p + 1 + n ≤ xs.length) (hn : n < 8) : dv xs p n ≤ 4611686018427387903 := by
  have h1 := dv_lt xs p n h
  have h2 : 256 ^ n ≤ 256 ^ 7 := Nat.pow_le_pow_right (by omega) (by omega)
  have e : 256 ^ 7 = 72057594037927936 := by decide
  omega
theorem dv_mono (xs : List UInt8) (p : Nat) : ∀ n j, j ≤ n → p + 1 + n ≤ xs.length → dv xs p j ≤ dv xs p n
  | 0, j, hj, _ => by
    obtain rfl : j = 0 := by omega
    exact Nat.le_refl _
  | n + 1, j, hj, h => by
    by_cases e : j = n + 1
    · subst e; exact Nat.le_refl _
    · have ih := dv_mono xs p n j (by omega) (by omega)
      have := dv_succ xs p n (by omega)
      omega

end Go.Proofs.YtphchggabcbfkaaDoor
