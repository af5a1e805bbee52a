/- The writer's exported calls: Num, Text, Raw, Out. -/
import Derived.Test.YtgafkphhnlifiaaWr
namespace Go.Proofs.Ytgafkphhnlifiaa
open Go.RowKit

/-- What a writer has behind a number that is written. -/
def wNum (xs : List UInt8) (e : Int) (x : Int) : List UInt8 × Int :=
  if e ≠ 0 then (xs, e) else if x < 0 ∨ 4611686018427387903 < x then (xs, 5) else if 1048576 < 1 + nb x.toNat + xs.length then (xs, 3) else (xs ++ enc x.toNat, 0)
/-- What a writer has behind bytes that are written. -/
def wRaw (xs : List UInt8) (e : Int) (ys : List UInt8) : List UInt8 × Int :=
  if e ≠ 0 then (xs, e) else if 1048576 < 1 + nb ys.length + ys.length + xs.length then (xs, 3) else (xs ++ enc ys.length ++ ys, 0)

end Go.Proofs.Ytgafkphhnlifiaa
