/- Package frame: CheckPacket. -/
import Derived.Test.YtphchggabcbfkaaDoorFsum
namespace Go.Proofs.YtphchggabcbfkaaDoor
open Go.RowKit
set_option linter.unusedSimpArgs false

/-- Is it a number that a packet may hold? -/
def inN (x : Int) : Prop := 0 ≤ x ∧ x ≤ 1099511627776
instance (x : Int) : Decidable (inN x) := by unfold inN; exact inferInstance
/-- Which packets may be. -/
def FineP (f t n a : Int) (len : Nat) : Prop := 1 ≤ f ∧ f ≤ 1099511627776 ∧ inN t ∧ inN n ∧ inN a ∧ len ≤ 400 ∧ (n = 0 → len = 0)
instance (f t n a : Int) (len : Nat) : Decidable (FineP f t n a len) := by unfold FineP; exact inferInstance
def chkP (f t n a : Int) (len : Nat) : Int := if FineP f t n a len then 0 else 2
theorem chkP_fine {f t n a : Int} {len : Nat} (h : FineP f t n a len) : chkP f t n a len = 0 := if_pos h
theorem chkP_odd {f t n a : Int} {len : Nat} (h : ¬ FineP f t n a len) : chkP f t n a len = 2 := if_neg h

end Go.Proofs.YtphchggabcbfkaaDoor
