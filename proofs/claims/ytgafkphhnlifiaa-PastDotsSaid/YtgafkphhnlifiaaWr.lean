/- The writer of package wire: what each of its calls does. -/
import Derived.Test.YtgafkphhnlifiaaLen
namespace Go.Proofs.Ytgafkphhnlifiaa
open Go.RowKit

theorem u8_of (x : Int) (k : Nat) (h : x = (k : Int)) (hk : k < 256) : x = ((UInt8.ofNat k).toNat : Int) := by
  rw [UInt8.toNat_ofNat', Nat.mod_eq_of_lt hk]; exact h

theorem u8_shift (n k : Nat) : ((n : Int) / 2 ^ (8 * k) % 256) = ((UInt8.ofNat (n / 256 ^ k)).toNat : Int) := by
  rw [UInt8.toNat_ofNat']
  have e : (2 : Int) ^ (8 * k) = ((256 ^ k : Nat) : Int) := by
    rw [Int.pow_mul, show (2 : Int) ^ 8 = ((256 : Nat) : Int) from rfl, ← Int.natCast_pow]
  rw [e]
  omega

end Go.Proofs.Ytgafkphhnlifiaa
