/- Maps on marks, and what the model makes of them. No program is named here. One operation on marks is one operation of the model's. No program is named here. Code, calls and rounds on marks, and what the model makes of them. No program is named here. -/
import Derived.Test.YtimdfpejgaidhaaGreatDoorZtwe
import Derived.RangeFuncNested
namespace Go.Proofs.YtimdfpejgaidhaaGreatDoor
end Go.Proofs.YtimdfpejgaidhaaGreatDoor
