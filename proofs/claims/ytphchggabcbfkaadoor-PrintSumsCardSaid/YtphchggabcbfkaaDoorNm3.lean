/- The reader's number where digits follow. -/
import Derived.Test.YtphchggabcbfkaaDoorNm2
namespace Go.Proofs.YtphchggabcbfkaaDoor
open Go.RowKit

theorem val_snoc (l : List UInt8) (c : UInt8) : val (l ++ [c]) = val l * 256 + c.toNat := by simp [val, List.foldl_append]
theorem val_nil : val [] = 0 := rfl
theorem val_lt : ∀ (k : Nat) (l : List UInt8), l.length = k → val l < 256 ^ k
  | 0, l, h => by
    have : l = [] := List.eq_nil_of_length_eq_zero h
    subst this; decide
  | k + 1, l, h => by
    obtain ⟨c, hc⟩ : ∃ c, l = l.take k ++ [c] := ⟨l[k]'(by omega), by rw [List.take_append_getElem]; exact (List.take_of_length_le (by omega)).symm⟩
    have hk := val_lt k (l.take k) (by simp; omega)
    have hb := c.toNat_lt
    rw [hc, val_snoc, Nat.pow_succ]
    omega
theorem take_more (l : List UInt8) (j : Nat) (h : j < l.length) : l.take (j + 1) = l.take j ++ [l.getD j 0] := by
  rw [List.take_succ_eq_append_getElem h]
  simp [List.getD, h]

/-- The number of the first j bytes behind the place. -/
def dv (xs : List UInt8) (p j : Nat) : Nat := val ((xs.drop (p + 1)).take j)
theorem dv_zero (xs : List UInt8) (p : Nat) : dv xs p 0 = 0 := by simp [dv, val_nil]
/-- The byte at a place. -/
def bt (xs : List UInt8) (j : Nat) : Nat := (xs.getD j 0).toNat
theorem bt_lt (xs : List UInt8) (j : Nat) : bt xs j < 256 := (xs.getD j 0).toNat_lt
theorem dv_succ (xs : List UInt8) (p j : Nat) (h : p + 1 + j < xs.length) : dv xs p (j + 1) = dv xs p j * 256 + bt xs (p + 1 + j) := by
  unfold dv bt
  rw [take_more _ _ (by simp; omega), val_snoc]
  congr 2
  simp [List.getD, List.getElem?_drop]
theorem dv_lt (xs : List UInt8) (p j : Nat) (h : p + 1 + j ≤ xs.length) : dv xs p j < 256 ^ j := val_lt j _ (by simp; omega)
theorem dv_lt8 (xs : List UInt8) (p j : Nat) (h : p + 1 + j ≤ xs.length) (hj : j ≤ 8) : dv xs p j ≤ 18446744073709551615 := by
  have h1 := dv_lt xs p j h
  have h2 : 256 ^ j ≤ 256 ^ 8 := Nat.pow_le_pow_right (by omega) hj
  have h3 : 256 ^ 8 = 18446744073709551616 := by decide
  omega

theorem or_join (a b : Nat) (h : a * 256 + b ≤ 18446744073709551615) (hb : b < 256) : bits .or .u64 ((a : Int) * 256) (b : Int) = ((a * 256 + b : Nat) : Int) := by
  rw [show (a : Int) * 256 = ((a * 256 : Nat) : Int) by omega, u64_or_nat _ _ (by omega) (by omega), nat_join 8 _ _ (by omega) (by omega)]

end Go.Proofs.YtphchggabcbfkaaDoor
