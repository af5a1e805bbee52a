/- The writer's Raw, Text and Out. -/
import Derived.Test.YtgafkphhnlifiaaWr2
namespace Go.Proofs.Ytgafkphhnlifiaa
open Go.RowKit

theorem enc_room (xs : List UInt8) (m : Nat) (_h : xs.length ≤ 1048576) (hl : 1 + nb m + m + xs.length ≤ 1048576) : (xs ++ enc (m : Int).toNat).length + m ≤ 140737488355327 := by
  rw [List.length_append, enc_len, Int.toNat_natCast]; omega

end Go.Proofs.Ytgafkphhnlifiaa
